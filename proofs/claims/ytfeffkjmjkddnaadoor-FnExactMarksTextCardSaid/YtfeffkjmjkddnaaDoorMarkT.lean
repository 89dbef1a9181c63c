/- The laws' text of a mark. -/
import Derived.Test.YtfeffkjmjkddnaaDoorFlat
import Derived.Laws.IdiomStrings
namespace Go.Proofs.YtfeffkjmjkddnaaDoor
open Go.ChangeShapes Go.WideShapes Go.ChangeAt Go.RowKit
set_option linter.unusedVariables false

/-- A number's low byte. -/
def lowByte (v : Int) : UInt8 := UInt8.ofNat v.toNat
/-- string([]byte{x}). -/
theorem conv_byte (W : World) (g : Nat) (v : Int) (h0 : 0 ≤ v) (h1 : v ≤ 255) (hc : W.cell? ⟨g, 0, none⟩ = some (.int .u8 v)) :
    (convert 68 9 (.slice (some ⟨g, 0, none⟩) 1 1)).run Tryd.prog W = .ok (.string ⟨#[lowByte v]⟩) W := by
  have := run_convert_bytes_back (P := Tryd.prog) W 68 9 5 ⟨g, 0, none⟩ 1 [UInt8.ofNat v.toNat] Tryd.underlying68 Tryd.underlying5 Tryd.underlying9 (fun j hj => by
    obtain rfl : j = 0 := by simp at hj; omega
    have e : ((UInt8.ofNat v.toNat).toNat : Int) = v := by
      rw [UInt8.toNat_ofNat']
      omega
    show W.cell? ((⟨g, 0, none⟩ : Addr).add 0) = some (.int .u8 ((UInt8.ofNat v.toNat).toNat : Int))
    rw [e]
    exact hc)
  exact this

/-- The digits that are put ahead of out, f rounds at most. -/
def mkF : Nat → Nat → ByteArray → ByteArray
  | 0, _, out => out
  | f + 1, k, out => if k = 0 then out else mkF f (k / 10) (⟨#[lowByte (48 + (k : Int) % 10)]⟩ ++ out)
theorem mkF_zero (f : Nat) (out : ByteArray) : mkF f 0 out = out := by
  cases f <;> rfl
theorem mkF_step (f k : Nat) (out : ByteArray) (h : 0 < k) : mkF (f + 1) k out = mkF f (k / 10) (⟨#[lowByte (48 + (k : Int) % 10)]⟩ ++ out) := by
  simp only [mkF, if_neg (show ¬ k = 0 by omega)]
def mkText (k : Nat) : ByteArray := ⟨#[109]⟩ ++ mkF k k ⟨#[]⟩

end Go.Proofs.YtfeffkjmjkddnaaDoor
