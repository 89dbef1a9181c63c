/- Lists of items held. -/
import Derived.Test.YtpjimngdldnomaaItemM
namespace Go.Proofs.Ytpjimngdldnomaa
open Go.ChangeShapes Go.WideShapes Go.ChangeAt Go.RowKit
set_option linter.unusedVariables false

theorem mk_at {w : World} {b o k : Nat} {x : Im} (h : ImAt w b o (mkIm k x)) :
    w.cell? ⟨b, o, none⟩ = some (.slice x.A x.ns.length x.c) ∧ w.cell? ⟨b, o + 1, none⟩ = some (.slice x.L x.ms.length x.d) ∧ w.cell? ⟨b, o + 2, none⟩ = some (.bool (((k : Int) + (x.ns.length : Int) + (x.ms.length : Int)) % 3 == 0)) := by
  have h0 := h.c0
  have h1 := h.c1
  have h2 := h.c2
  rw [late_eq] at h2
  rw [show (mkIm k x).ns.length = x.ns.length from seqS_len _ _] at h0
  rw [show (mkIm k x).ms.length = x.ms.length from seqF_len _ _] at h1
  exact ⟨h0, h1, h2⟩
theorem ims_kept {w w' : World} {P : Option Addr} {xs : List Im} (h : Ims w w.heap.size P xs) (hb : Below w.heap.size w w') : Ims w' w'.heap.size P xs := h.next hb
end Go.Proofs.Ytpjimngdldnomaa
