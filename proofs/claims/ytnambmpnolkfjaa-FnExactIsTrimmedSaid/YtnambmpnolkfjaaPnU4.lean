/- The symmetric merge: as a whole. -/
import Derived.Test.YtnambmpnolkfjaaPnU1
import Derived.Test.YtnambmpnolkfjaaPnU2
import Derived.Test.YtnambmpnolkfjaaPnU3
namespace Go.Proofs.Ytnambmpnolkfjaa
open Go.ChangeShapes Go.WideShapes Go.ChangeAt Go.RowKit Go.Lib Go.Sort Go.Proofs
set_option linter.unusedVariables false

/-- The symmetric merge of two sorted neighbours is a stable merge. -/
theorem symMerge_any (key : Nat → Int) (l : List Int) (g : Nat) (cb : Array Value) (blk off cap : Nat) (d0 : Array Nat) (w0 : World) : ∀ (N a m b : Nat) (d : Array Nat) (w : World), b - a ≤ N → SymIn key l g cb blk off d0 w0 a m b d w → Calls Try.prog 118 #[.slice (some ⟨blk, off, none⟩) d.size cap, .int .i64 a, .int .i64 m, .int .i64 b, .func (.func g) #[] cb] w fun e w' => e = .returned (.tuple #[]) ∧ SymOut key l blk off w0 a b d w'
  | 0, a, m, b, d, w, hN, A => absurd hN (by have := A.h1; have := A.h2; omega)
  | N + 1, a, m, b, d, w, hN, A => by
    by_cases hm : m = a + 1
    · exact symMerge_left key l g cb blk off cap d0 w0 a m b d w A hm
    · have h1 := A.h1
      have h2 := A.h2
      by_cases hb : b = m + 1
      · exact symMerge_right key l g cb blk off cap d0 w0 a m b d w A hb (by omega)
      · exact symMerge_mid key l g cb blk off cap d0 w0 a m b d w A (by omega) (by omega) (fun a1 m1 b1 d1 w1 h A1 => symMerge_any key l g cb blk off cap d0 w0 N a1 m1 b1 d1 w1 (by omega) A1)
end Go.Proofs.Ytnambmpnolkfjaa
