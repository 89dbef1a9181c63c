/- The laws' text of a mark. -/
import Derived.Test.YtbhfhjhegcfdkaaFlat
import Derived.Laws.IdiomStrings
namespace Go.Proofs.Ytbhfhjhegcfdkaa
open Go.ChangeShapes Go.WideShapes Go.ChangeAt Go.RowKit
set_option linter.unusedVariables false

/-- A number's low byte. -/
def lowByte (v : Int) : UInt8 := UInt8.ofNat v.toNat
/-- string([]byte{x}). -/
theorem conv_byte (W : World) (g : Nat) (v : Int) (h0 : 0 ≤ v) (h1 : v ≤ 255) (hc : W.cell? ⟨g, 0, none⟩ = some (.int .u8 v)) :
    (convert 101 9 (.slice (some ⟨g, 0, none⟩) 1 1)).run Try.prog W = .ok (.string ⟨#[lowByte v]⟩) W := by
  have := run_convert_bytes_back (P := Try.prog) W 101 9 5 ⟨g, 0, none⟩ 1 [UInt8.ofNat v.toNat] Try.underlying101 Try.underlying5 Try.underlying9 (fun j hj => by
    obtain rfl : j = 0 := by simp at hj; omega
    have e : ((UInt8.ofNat v.toNat).toNat : Int) = v := by
      rw [UInt8.toNat_ofNat']
      omega
    show W.cell? ((⟨g, 0, none⟩ : Addr).add 0) = some (.int .u8 ((UInt8.ofNat v.toNat).toNat : Int))
    rw [e]
    exact hc)
  exact this

/-- The digits that are put ahead of out, f rounds at most. -/
def mkF : Nat → Nat → ByteArray → ByteArray
  | 0, _, out => out
  | f + 1, k, out => if k = 0 then out else mkF f (k / 10) (⟨#[lowByte (48 + (k : Int) % 10)]⟩ ++ out)
theorem mkF_zero (f : Nat) (out : ByteArray) : mkF f 0 out = out := by
  cases f <;> rfl
theorem mkF_step (f k : Nat) (out : ByteArray) (h : 0 < k) : mkF (f + 1) k out = mkF f (k / 10) (⟨#[lowByte (48 + (k : Int) % 10)]⟩ ++ out) := by
  simp only [mkF, if_neg (show ¬ k = 0 by omega)]
def mkText (k : Nat) : ByteArray := ⟨#[109]⟩ ++ mkF k k ⟨#[]⟩

theorem markText_any (k : Nat) (w : World) (h0 : 0 < k) (h1 : k ≤ 10000000000000000) :
    Calls Try.prog 57 #[.int .i64 k] w fun e w' => e = .returned (.string (mkText k)) ∧ Below w.heap.size w w' := by
  have hc := fun (W : World) (g : Nat) (m : Nat) => conv_byte W g (48 + (m : Int) % 10) (by omega) (by omega)
  go_enter Try.func57, Try.ntmps57
  go_wp2
  go_loopw [0, 3] (fun q s wr => ∃ (m f : Nat) (out : ByteArray), m ≤ f ∧ q = .int .i64 m ∧ s = .string out ∧ out.size + m ≤ k ∧ Hid (mkF f m out = mkF k k ⟨#[]⟩) ∧ Below w.heap.size w wr) (fun q _ _ => (intOf q).toNat)
  case atStart => exact ⟨k, k, ⟨#[]⟩, Nat.le_refl _, rfl, rfl, Nat.le_of_eq (Nat.zero_add k), Lib.hid rfl, Below.refl _ _⟩
  case round =>
    obtain ⟨m, f, out, hf, rfl, rfl, hs, HE, hb⟩ := hrel
    have HB := Lib.hid hb
    have hsz := hb.size
    clear hb
    by_cases hm : 0 < m
    · have hcm := fun (W : World) (g : Nat) => hc W g m
      have e2 : ((m : Int)).tmod 10 = (m : Int) % 10 := Int.tmod_eq_emod_of_nonneg (by omega)
      have e3 : IntKind.i64.wrap (48 + (m : Int) % 10) = 48 + (m : Int) % 10 := IntWalk.i64_in _ (by omega)
      have e4 : IntKind.u8.wrap (48 + (m : Int) % 10) = 48 + (m : Int) % 10 := IntWalk.u8_in _ (by omega)
      go_wp2
      go_roundw
      case rel =>
        obtain ⟨f, rfl⟩ : ∃ f', f = f' + 1 := ⟨f - 1, by omega⟩
        exact ⟨m / 10, f, _, by omega, by go_num, rfl, by rw [ByteArray.size_append]; show 1 + out.size + m / 10 ≤ k; omega, Lib.hid (by rw [← mkF_step f m out hm]; exact HE.out), HB.out.alloc hsz _⟩
      case measure => simp [intOf]; omega
    · obtain rfl : m = 0 := by omega
      have HX : Hid (out = mkF k k ⟨#[]⟩) := Lib.hid (by rw [← HE.out, mkF_zero])
      go_wp2
      go_ret
      exact ⟨by rw [HX.out]; rfl, HB.out⟩

theorem markText_i (m : Int) (k : Nat) (w : World) (hm : m = (k : Int)) (h0 : 0 < k) (h1 : k ≤ 10000000000000000) :
    Calls Try.prog 57 #[.int .i64 m] w fun e w' => e = .returned (.string (mkText k)) ∧ Below w.heap.size w w' := hm ▸ markText_any k w h0 h1
end Go.Proofs.Ytbhfhjhegcfdkaa
