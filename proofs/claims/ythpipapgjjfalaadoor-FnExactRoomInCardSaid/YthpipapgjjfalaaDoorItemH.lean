/- Lists of items held. -/
import Derived.Test.YthpipapgjjfalaaDoorItemM
namespace Go.Proofs.YthpipapgjjfalaaDoor
open Go.ChangeShapes Go.WideShapes Go.ChangeAt Go.RowKit
set_option linter.unusedVariables false

theorem mk_at {w : World} {b o k : Nat} {x : Im} (h : ImAt w b o (mkIm k x)) :
    w.cell? ⟨b, o, none⟩ = some (.slice x.A x.ns.length x.c) ∧ w.cell? ⟨b, o + 1, none⟩ = some (.slice x.L x.ms.length x.d) ∧ w.cell? ⟨b, o + 2, none⟩ = some (.bool (((k : Int) + (x.ns.length : Int) + (x.ms.length : Int)) % 3 == 0)) := by
  have h0 := h.c0
  have h1 := h.c1
  have h2 := h.c2
  rw [late_eq] at h2
  rw [show (mkIm k x).ns.length = x.ns.length from seqS_len _ _] at h0
  rw [show (mkIm k x).ms.length = x.ms.length from seqF_len _ _] at h1
  exact ⟨h0, h1, h2⟩
theorem heldIntS_i (A : Option Addr) (c n : Nat) (m : Int) (k : Nat) (w : World) (hm : m = (k : Int)) (hr : Lst w w.heap.size A (seqF (k : Int) n)) (hl : n ≤ 1048576) (hk2 : k ≤ 1000000000000000) :
    Calls Tryd.prog 26 #[.slice A n c, .int .i64 m] w fun e w' => e = .returned (.int .i64 ((k + n : Nat) : Int)) ∧ w' = w := by
  subst hm
  exact (heldIntS_any A c n k w w.heap.size hr hl (by omega) (by omega)).mono (by rintro e w' ⟨rfl, h⟩; exact ⟨by congr 2, h⟩)
theorem markItemS_n (S : Nat → Prop) (P : Option Addr) (c : Nat) (g : Nat) (G : Nat → Nat) (xs ys : List Im) (m : Int) (k : Nat) (w : World) (hm : m = (k : Int)) (hs : SameS xs ys) (hr : ImsOwn S w P g G ys) (hl : ImsFits xs) (hk : 0 < k) (hk2 : k ≤ 1000000000000) :
    Calls Tryd.prog 24 #[.slice P xs.length c, .int .i64 m] w fun e w' => (∃ n : Int, e = .returned (.int .i64 n) ∧ 0 ≤ n) ∧ Only S w w' := by
  subst hm
  rw [← hs.len]
  exact (markItemS_any S P c g G ys k w hr (hs.fits hl) hk hk2).mono (by rintro e w' ⟨rfl, _, h⟩; exact ⟨⟨_, rfl, by omega⟩, h⟩)
theorem ims_kept {w w' : World} {P : Option Addr} {xs : List Im} (h : Ims w w.heap.size P xs) (hb : Below w.heap.size w w') : Ims w' w'.heap.size P xs := h.next hb
theorem markStringS_i (S : Nat → Prop) (A : Option Addr) (c : Nat) (xs : List ByteArray) (m : Int) (k : Nat) (w : World) (hm : m = (k : Int)) (hr : Owned S w A xs) (hl : xs.length ≤ 1048576) (hk : 0 < k) (hk2 : k ≤ 1000000000000000) :
    Calls Tryd.prog 50 #[.slice A xs.length c, .int .i64 m] w fun e w' => e = .returned (.int .i64 ((k + xs.length : Nat) : Int)) ∧ Owned S w' A (seqS k xs.length) ∧ Only S w w' := by
  subst hm
  exact markStringS_any S A c xs k w hr hl hk hk2
end Go.Proofs.YthpipapgjjfalaaDoor
