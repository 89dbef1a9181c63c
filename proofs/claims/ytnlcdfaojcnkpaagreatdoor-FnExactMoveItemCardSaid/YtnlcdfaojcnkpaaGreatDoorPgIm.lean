/- An item of a call's own: copied, carried along, marked. -/
import Derived.Test.YtnlcdfaojcnkpaaGreatDoorPgIn
namespace Go.Proofs.YtnlcdfaojcnkpaaGreatDoor
open Go.ChangeShapes Go.WideShapes Go.ChangeAt Go.RowKit Go.PlainAid
set_option linter.unusedVariables false

/-- An item whose slices lie in two blocks of S. -/
structure ItOwn (S : Nat → Prop) (w : World) (y : Im) : Prop where
  ns : Owned S w y.A y.ns
  ms : Owned S w y.L y.ms
  ap : ∃ g1 g2, g1 ≠ g2 ∧ Owned (fun i => i = g1) w y.A y.ns ∧ Owned (fun i => i = g2) w y.L y.ms ∧ S g1 ∧ S g2 ∧ g1 < w.heap.size
theorem ItOwn.next {S : Nat → Prop} {w w' : World} {y : Im} (h : ItOwn S w y) (hb : Below w.heap.size w w') : ItOwn S w' y := by
  obtain ⟨h1, h2, g1, g2, hne, o1, o2, s1, s2, hl⟩ := h
  exact ⟨h1.keepB hb, h2.keepB hb, g1, g2, hne, o1.keepB hb, o2.keepB hb, s1, s2, Nat.lt_of_lt_of_le hl hb.size⟩
theorem ItOwn.keep {S T : Nat → Prop} {w w' : World} {y : Im} (h : ItOwn S w y) (k : Only T w w') (hd : ∀ i, S i → ¬ T i) : ItOwn S w' y := by
  obtain ⟨h1, h2, g1, g2, hne, o1, o2, s1, s2, hl⟩ := h
  exact ⟨h1.keep k hd, h2.keep k hd, g1, g2, hne, o1.keep k (fun i e => e ▸ hd _ s1), o2.keep k (fun i e => e ▸ hd _ s2), s1, s2, Nat.lt_of_lt_of_le hl k.size⟩
theorem ItOwn.imIn {S : Nat → Prop} {w : World} {y : Im} (h : ItOwn S w y) : ImIn w w.heap.size y := ⟨h.ns.lst, h.ms.lst⟩
theorem ImBox.only {S : Nat → Prop} {w w' : World} {b : Nat} {x : Im} (h : ImBox w b x) (k : Only S w w') (hs : ¬ S b) : ImBox w' b x := by
  have hb := k.block b h.lt hs
  exact ⟨Nat.lt_of_lt_of_le h.lt k.size, (World.cell?_of_block (a := ⟨b, 0, none⟩) hb).trans h.c0, (World.cell?_of_block (a := ⟨b, 1, none⟩) hb).trans h.c1, (World.cell?_of_block (a := ⟨b, 2, none⟩) hb).trans h.c2⟩
theorem toItem_o (x : Im) (w : World) (hr : ImIn w w.heap.size x) (hl : ItFits x) :
    Calls Tryz.prog 13 #[x.val] w fun e w' => (∃ y, e = .returned y.val ∧ Same x y ∧ ItOwn (fun i => w.heap.size ≤ i ∧ i < w'.heap.size) w' y) ∧ Below w.heap.size w w' := by
  refine (toItem_any x w hr hl).mono ?_
  rintro e w' ⟨⟨g1, g2, rfl, h1, h2, l1, l2, l3⟩, hb⟩
  exact ⟨⟨x.cpy g1 g2, rfl, same_cpy _ _ _, fun _ => ⟨g1, 0, rfl, ⟨by omega, by omega⟩, by omega, h1⟩, fun _ => ⟨g2, 0, rfl, ⟨by omega, by omega⟩, by omega, h2⟩, g1, g2, by omega, fun _ => ⟨g1, 0, rfl, rfl, by omega, h1⟩, fun _ => ⟨g2, 0, rfl, rfl, by omega, h2⟩, ⟨by omega, by omega⟩, ⟨by omega, by omega⟩, by omega⟩, hb⟩
theorem markItemS_b (S : Nat → Prop) (P : Option Addr) (c : Nat) (g : Nat) (G : Nat → Nat) (xs ys : List Im) (m : Int) (k : Nat) (w : World) (hm : m = (k : Int)) (hs : SameS xs ys) (hr : ImsOwn S w P g G ys) (hl : ImsFits xs) (hk : 0 < k) (hk2 : k ≤ 1000000000000) :
    Calls Tryz.prog 19 #[.slice P xs.length c, .int .i64 m] w fun e w' => (∃ n : Int, e = .returned (.int .i64 n) ∧ 0 < n ∧ n ≤ 100000000000000) ∧ Only S w w' := by
  subst hm
  rw [← hs.len]
  have hb := kAt_small ys k (hs.fits hl) (by omega) ys.length (Nat.le_refl _)
  exact (markItemS_any S P c g G ys k w hr (hs.fits hl) hk (by omega)).mono (by rintro e w' ⟨rfl, _, h⟩; exact ⟨⟨_, rfl, by omega, by omega⟩, h⟩)
set_option maxHeartbeats 1000000 in
theorem markItem_n (S : Nat → Prop) (y : Im) (m : Int) (w : World) (hr : ItOwn S w y) (hl : ItFits y) (h0 : 0 < m) (h1 : m ≤ 100000000000000) :
    Calls Tryz.prog 20 #[y.val, .int .i64 m] w fun e w' => (∃ n : Int, e = .returned (.int .i64 n) ∧ 0 ≤ n) ∧ Only S w w' := by
  obtain ⟨k, rfl⟩ : ∃ k : Nat, m = (k : Int) := ⟨m.toNat, by omega⟩
  obtain ⟨_, _, g1, g2, hne, o1, o2, s1, s2, hgl⟩ := hr
  obtain ⟨W, hW, hI⟩ := boxedI 41 w y
  have HO0 := Lib.hid (show Only S w W from Only.of_below hI.below (Nat.le_refl _))
  have HN := Lib.hid (o1.keepB hI.below)
  have HM := Lib.hid (o2.keepB hI.below)
  have HX := Lib.hid hI.box
  have hn := hl.ns.1
  have hm := hl.ms
  have hs := hI.size
  have HF := Lib.hid hl
  clear o1 o2 hI hl
  unfold boxIm at hW
  unfold Im.val
  go_enter Tryz.func20, Tryz.ntmps20
  obtain ⟨_, j0, j1, j2⟩ := HX.out
  rw [hW] at j0 j1 j2
  go_wp2_with fail
  rw [← hW]
  clear hW j0 j1 j2
  refine (markStringS_any (fun i => i = g1) y.A y.c y.ns k W HN.out hn (by omega) (by omega)).mono ?_
  rintro e w1 ⟨rfl, hn1, on1⟩
  have HM1 := Lib.hid (HM.out.keep on1 (fun a q1 q2 => hne (q2.symm.trans q1)))
  have HO1 := Lib.hid (HO0.out.trans (on1.mono (fun i e => e ▸ s1)))
  have HX1 := Lib.hid (HX.out.only on1 (by omega))
  obtain ⟨_, j0, j1, j2⟩ := HX1.out
  clear hn1 on1
  go_wp2_with fail
  clear j0 j1 j2
  refine (markIntS_i (fun i => i = g2) y.L y.d y.ms _ (k + y.ns.length) _ (by omega) HM1.out hm (by omega)).mono ?_
  rintro e w2 ⟨rfl, hm2, on2⟩
  have HO2 := Lib.hid (HO1.out.trans (on2.mono (fun i e => e ▸ s2)))
  clear hm2 on2
  go_wp2
  go_ret
  exact ⟨⟨_, rfl, by omega⟩, HO2.out⟩
end Go.Proofs.YtnlcdfaojcnkpaaGreatDoor
