/- Lists of items held. -/
import Derived.Test.YtbhfhjhegcfdkaaItemM
namespace Go.Proofs.Ytbhfhjhegcfdkaa
open Go.ChangeShapes Go.WideShapes Go.ChangeAt Go.RowKit
set_option linter.unusedVariables false

theorem mk_at {w : World} {b o k : Nat} {x : Im} (h : ImAt w b o (mkIm k x)) :
    w.cell? ⟨b, o, none⟩ = some (.slice x.A x.ns.length x.c) ∧ w.cell? ⟨b, o + 1, none⟩ = some (.slice x.L x.ms.length x.d) ∧ w.cell? ⟨b, o + 2, none⟩ = some (.bool (((k : Int) + (x.ns.length : Int) + (x.ms.length : Int)) % 3 == 0)) := by
  have h0 := h.c0
  have h1 := h.c1
  have h2 := h.c2
  rw [late_eq] at h2
  rw [show (mkIm k x).ns.length = x.ns.length from seqS_len _ _] at h0
  rw [show (mkIm k x).ms.length = x.ms.length from seqF_len _ _] at h1
  exact ⟨h0, h1, h2⟩
theorem heldIntS_i (A : Option Addr) (c n : Nat) (m : Int) (k : Nat) (w : World) (hm : m = (k : Int)) (hr : Lst w w.heap.size A (seqF (k : Int) n)) (hl : n ≤ 1048576) (hk2 : k ≤ 1000000000000000) :
    Calls Try.prog 33 #[.slice A n c, .int .i64 m] w fun e w' => e = .returned (.int .i64 ((k + n : Nat) : Int)) ∧ w' = w := by
  subst hm
  exact (heldIntS_any A c n k w w.heap.size hr hl (by omega) (by omega)).mono (by rintro e w' ⟨rfl, h⟩; exact ⟨by congr 2, h⟩)
set_option maxHeartbeats 1000000 in
theorem heldItemS_any (P : Option Addr) (c : Nat) (xs ys : List Im) (k : Nat) (w : World) (hm : Marked xs k xs.length ys) (hr : Ims w w.heap.size P ys) (hl : ImsFits xs) (hk : 0 < k) (hk2 : k ≤ 10000000000000) :
    Calls Try.prog 12 #[.slice P xs.length c, .int .i64 k] w fun e w' => e = .returned (.int .i64 ((kAt xs k xs.length : Nat) : Int)) ∧ Below w.heap.size w w' := by
  have HR := Lib.hid hr
  have HF := Lib.hid hl.each
  have HK := Lib.hid (kAt_small xs k hl hk2)
  have hl' := hl.len
  have HM := Lib.hid hm
  clear hr hl hm
  go_enter Try.func12, Try.ntmps12
  go_wp2
  go_loopw [1, 5] (fun q i wr => ∃ (j : Nat), j ≤ xs.length ∧ i = .int .i64 j ∧ q = .int .i64 ((kAt xs k j : Nat) : Int) ∧ Below w.heap.size w wr) (fun _ i _ => xs.length - (intOf i).toNat)
  case atStart => exact ⟨0, Nat.zero_le _, rfl, rfl, Below.refl _ _⟩
  case round =>
    obtain ⟨j, hj, rfl, rfl, hb⟩ := hrel
    by_cases hlt : j < xs.length
    · have hys := HM.out.len
      have hitem := HM.out.done j hlt
      have hfit := HF.out j hlt
      have hfn := hfit.ns.1
      have hfm := hfit.ms
      obtain ⟨k1, k2⟩ := HK.out j hj
      obtain ⟨b, o, rfl, hbl, hc⟩ := HR.out.out.im (by omega)
      have hcj := (hc j (by omega)).below hb hbl
      have HE := Lib.hid ((HR.out.each j (by omega)).next hb)
      rw [hitem] at hcj HE
      obtain ⟨c0, c1, c2⟩ := mk_at hcj
      have HC := Lib.hid hcj
      have HB := Lib.hid hb
      have hbw := Nat.lt_of_lt_of_le hbl hb.size
      clear hc hcj hb
      go_wp2_with fail
      refine (heldStringS_any (it xs j).A (it xs j).c (it xs j).ns.length (kAt xs k j) _ HE.out.ns hfn (by omega) (by omega)).mono ?_
      rintro e w1 ⟨rfl, hb1⟩
      have HC1 := Lib.hid (HC.out.below hb1 hbw)
      have HE1 := Lib.hid (HE.out.next hb1)
      have HB1 := Lib.hid (below_next HB.out hb1)
      clear c0 c1 c2 hb1
      obtain ⟨c0, c1, c2⟩ := mk_at HC1.out
      go_wp2_with fail
      refine (heldIntS_i (it xs j).L (it xs j).d (it xs j).ms.length _ (kAt xs k j + (it xs j).ns.length) _ (by omega) HE1.out.ms hfm (by omega)).mono ?_
      rintro e w2 ⟨rfl, rfl⟩
      go_wp2
      go_roundw
      case rel => exact ⟨j + 1, by omega, by go_num, by simp only [kAt]; go_num, HB1.out⟩
      case measure => simp [intOf]; omega
    · obtain rfl : j = xs.length := by omega
      go_wp2
      go_ret
      exact ⟨rfl, hb⟩

theorem markItemS_n (S : Nat → Prop) (P : Option Addr) (c : Nat) (g : Nat) (G : Nat → Nat) (xs ys : List Im) (m : Int) (k : Nat) (w : World) (hm : m = (k : Int)) (hs : SameS xs ys) (hr : ImsOwn S w P g G ys) (hl : ImsFits xs) (hk : 0 < k) (hk2 : k ≤ 10000000000000) :
    Calls Try.prog 11 #[.slice P xs.length c, .int .i64 m] w fun e w' => (∃ n : Int, e = .returned (.int .i64 n) ∧ 0 ≤ n) ∧ Only S w w' := by
  subst hm
  rw [← hs.len]
  exact (markItemS_any S P c g G ys k w hr (hs.fits hl) hk hk2).mono (by rintro e w' ⟨rfl, _, h⟩; exact ⟨⟨_, rfl, by omega⟩, h⟩)
theorem ims_kept {w w' : World} {P : Option Addr} {xs : List Im} (h : Ims w w.heap.size P xs) (hb : Below w.heap.size w w') : Ims w' w'.heap.size P xs := h.next hb
theorem markStringS_i (S : Nat → Prop) (A : Option Addr) (c : Nat) (xs : List ByteArray) (m : Int) (k : Nat) (w : World) (hm : m = (k : Int)) (hr : Owned S w A xs) (hl : xs.length ≤ 1048576) (hk : 0 < k) (hk2 : k ≤ 1000000000000000) :
    Calls Try.prog 30 #[.slice A xs.length c, .int .i64 m] w fun e w' => e = .returned (.int .i64 ((k + xs.length : Nat) : Int)) ∧ Owned S w' A (seqS k xs.length) ∧ Only S w w' := by
  subst hm
  exact markStringS_any S A c xs k w hr hl hk hk2
theorem heldStringS_i (A : Option Addr) (c n : Nat) (m : Int) (k : Nat) (w : World) (hm : m = (k : Int)) (hr : Lst w w.heap.size A (seqS k n)) (hl : n ≤ 1048576) (hk : 0 < k) (hk2 : k ≤ 1000000000000000) :
    Calls Try.prog 32 #[.slice A n c, .int .i64 m] w fun e w' => e = .returned (.int .i64 ((k + n : Nat) : Int)) ∧ Below w.heap.size w w' := by
  subst hm
  exact heldStringS_any A c n k w hr hl hk hk2
end Go.Proofs.Ytbhfhjhegcfdkaa
