/- Lists of items held. -/
import Derived.Test.YtocjkhfghldnnaaDoorItemM
namespace Go.Proofs.YtocjkhfghldnnaaDoor
open Go.ChangeShapes Go.WideShapes Go.ChangeAt Go.RowKit
set_option linter.unusedVariables false

theorem mk_at {w : World} {b o k : Nat} {x : Im} (h : ImAt w b o (mkIm k x)) :
    w.cell? ⟨b, o, none⟩ = some (.slice x.A x.ns.length x.c) ∧ w.cell? ⟨b, o + 1, none⟩ = some (.slice x.L x.ms.length x.d) ∧ w.cell? ⟨b, o + 2, none⟩ = some (.bool (((k : Int) + (x.ns.length : Int) + (x.ms.length : Int)) % 3 == 0)) := by
  have h0 := h.c0
  have h1 := h.c1
  have h2 := h.c2
  rw [late_eq] at h2
  rw [show (mkIm k x).ns.length = x.ns.length from seqS_len _ _] at h0
  rw [show (mkIm k x).ms.length = x.ms.length from seqF_len _ _] at h1
  exact ⟨h0, h1, h2⟩
theorem heldIntS_i (A : Option Addr) (c n : Nat) (m : Int) (k : Nat) (w : World) (hm : m = (k : Int)) (hr : Lst w w.heap.size A (seqF (k : Int) n)) (hl : n ≤ 1048576) (hk2 : k ≤ 1000000000000000) :
    Calls Tryd.prog 17 #[.slice A n c, .int .i64 m] w fun e w' => e = .returned (.int .i64 ((k + n : Nat) : Int)) ∧ w' = w := by
  subst hm
  exact (heldIntS_any A c n k w w.heap.size hr hl (by omega) (by omega)).mono (by rintro e w' ⟨rfl, h⟩; exact ⟨by congr 2, h⟩)
theorem ims_kept {w w' : World} {P : Option Addr} {xs : List Im} (h : Ims w w.heap.size P xs) (hb : Below w.heap.size w w') : Ims w' w'.heap.size P xs := h.next hb
end Go.Proofs.YtocjkhfghldnnaaDoor
