/- Sheets marked and held. -/
import Derived.Test.YtbhfhjhegcfdkaaShQ
namespace Go.Proofs.Ytbhfhjhegcfdkaa
open Go.ChangeShapes Go.WideShapes Go.ChangeAt Go.RowKit
set_option linter.unusedVariables false

theorem ImMem.only {S : Nat → Prop} {w w' : World} {b : Nat} {v0 v1 v2 : Value} (h : ImMem w b v0 v1 v2) (ho : Only S w w') (hb : b < w.heap.size) (hn : ¬ S b) : ImMem w' b v0 v1 v2 :=
  ⟨(World.cell?_of_block (w := w) (a := ⟨b, 0, none⟩) (ho.block b hb hn)).trans h.c0, (World.cell?_of_block (w := w) (a := ⟨b, 1, none⟩) (ho.block b hb hn)).trans h.c1, (World.cell?_of_block (w := w) (a := ⟨b, 2, none⟩) (ho.block b hb hn)).trans h.c2, fun j => (World.frozen?_of_block (w := w) (a := ⟨b, j, none⟩) (ho.block b hb hn)).trans (h.fr j)⟩
/-- The marks behind the items, behind the votes, behind the reviews. -/
def shK1 (x : Sh) (k : Nat) : Nat := kAt x.l k x.l.length
def shK2 (x : Sh) (k : Nat) : Nat := shK1 x k + Nst.cnt x.V
def shK3 (x : Sh) (k : Nat) : Nat := shK2 x k + x.rv.length * 3
structure MarkedSh (x : Sh) (k : Nat) (y : Sh) : Prop where
  P : y.P = x.P
  c : y.c = x.c
  l : Marked x.l k x.l.length y.l
  V : y.V = Nst.mkd (shK1 x k) x.V
  R : y.R = x.R
  e : y.e = x.e
  rv : y.rv = marksRv (shK2 x k) x.rv.length
theorem shK_le {x : Sh} (hl : ShFits x) (k : Nat) (hk2 : k ≤ 10000000000000) : k ≤ shK1 x k ∧ shK1 x k ≤ 20000000000000 ∧ shK1 x k ≤ shK2 x k ∧ shK2 x k ≤ shK1 x k + 1048576 := by
  have h1 := kAt_le x.l k hl.its x.l.length (Nat.le_refl _)
  have h2 := hl.its.len
  have h3 := Nat.le_trans (Nst.cnt_le x.V) hl.vo
  have h4 : shK1 x k = kAt x.l k x.l.length := rfl
  have h5 : shK2 x k = shK1 x k + Nst.cnt x.V := rfl
  omega
set_option maxHeartbeats 2000000 in
theorem markSheet_any (S : Nat → Prop) (x : Sh) (m : Int) (k : Nat) (w : World) (hm : m = (k : Int)) (hr : ShOwn S w x) (hS : ∀ i, S i → i < w.heap.size) (hl : ShFits x) (hk : 0 < k) (hk2 : k ≤ 10000000000000) :
    Calls Try.prog 10 #[x.val, .int .i64 m] w fun e w' => e = .returned (.int .i64 ((shK3 x k : Nat) : Int)) ∧ (∃ y, MarkedSh x k y ∧ ShOwn S w' y) ∧ Only S w w' := by
  subst hm
  obtain ⟨U1, U2, U3, g, G, h⟩ := hr
  have hb0 := below_alloc w (.cells #[.slice x.P x.l.length x.c, .slice x.V.A x.V.xs.length x.V.c, .slice x.R x.rv.length x.e] 33)
  have HI := Lib.hid (h.its.next hb0)
  have HV := Lib.hid (Nst.keepB h.vo hb0)
  have HW := Lib.hid (h.re.keepB hb0)
  have HX := Lib.hid (imMem_new w _ 33 rfl (.slice x.P x.l.length x.c) (.slice x.V.A x.V.xs.length x.V.c) (.slice x.R x.rv.length x.e))
  have hsW : w.heap.size < (w.alloc (.cells #[.slice x.P x.l.length x.c, .slice x.V.A x.V.xs.length x.V.c, .slice x.R x.rv.length x.e] 33)).heap.size := by simp
  have HO0 := Lib.hid (show Only S w (w.alloc (.cells #[.slice x.P x.l.length x.c, .slice x.V.A x.V.xs.length x.V.c, .slice x.R x.rv.length x.e] 33)) from (Only.of_below (S := fun _ => False) hb0 (Nat.le_refl _)).mono (fun _ e => e.elim))
  have HS := Lib.hid (And.intro h.s1 (And.intro h.s2 h.s3))
  have HD := Lib.hid (And.intro h.d12 (And.intro h.d13 h.d23))
  have HN := Lib.hid hS
  have HF := Lib.hid hl
  have HK := Lib.hid (shK_le hl k hk2)
  have HZ1 := Lib.hid (show ((kAt x.l k x.l.length : Nat) : Int) = ((shK1 x k : Nat) : Int) from rfl)
  clear h hb0 hS hl
  unfold Sh.val
  go_enter Try.func10, Try.ntmps10
  go_wp2_with fail
  generalize World.alloc w _ = W at HI HV HW HX hsW HO0 ⊢
  refine (markItemS_any U1 x.P x.c g G x.l k W HI.out HF.out.its hk hk2).mono ?_
  rintro e w1 ⟨rfl, ⟨ys, hmk, hio⟩, ho1⟩
  have hn1 : ¬ U1 w.heap.size := fun q => by have := HN.out _ (HS.out.1 _ q); omega
  have HX1 := Lib.hid (HX.out.only ho1 hsW hn1)
  have HV1 := Lib.hid (Nst.own_keep HV.out ho1 (fun i h1 h2 => HD.out.1 i h2 h1))
  have HW1 := Lib.hid (HW.out.keep ho1 (fun i h1 h2 => HD.out.2.1 i h2 h1))
  have HI1 := Lib.hid hio
  have HM := Lib.hid hmk
  have HO1 := Lib.hid (HO0.out.trans (ho1.mono HS.out.1))
  have hs1 := Nat.lt_of_lt_of_le hsW ho1.size
  clear hn1 ho1 hio hmk
  obtain ⟨x0, x1, x2, xf⟩ := HX1.out
  go_wp2_with fail
  clear x0 x1 x2
  refine (markIntSSS_r U2 x.V _ (shK1 x k) w1 HZ1.out HV1.out HF.out.vo (by have := HK.out; omega)).mono ?_
  rintro e w2 ⟨rfl, hvo, ho2⟩
  have hn2 : ¬ U2 w.heap.size := fun q => by have := HN.out _ (HS.out.2.1 _ q); omega
  have HX2 := Lib.hid (HX1.out.only ho2 hs1 hn2)
  have HI2 := Lib.hid (HI1.out.keep ho2 (fun i h1 h2 => HD.out.1 i h1 h2))
  have HW2 := Lib.hid (HW1.out.keep ho2 (fun i h1 h2 => HD.out.2.2 i h2 h1))
  have HV2 := Lib.hid hvo
  have HO2 := Lib.hid (HO1.out.trans (ho2.mono HS.out.2.1))
  have HZ2 := Lib.hid (show ((shK1 x k + Nst.cnt x.V : Nat) : Int) = ((shK2 x k : Nat) : Int) from rfl)
  clear hn2 ho2 hvo
  rw [HZ2.out]
  obtain ⟨x0, x1, x2, xf⟩ := HX2.out
  go_wp2_with fail
  clear x0 x1 x2
  refine (markReviewS_any U3 x.R x.e x.rv (shK2 x k) w2 HW2.out HF.out.re (by have := HK.out; omega) (by have := HK.out; omega)).mono ?_
  rintro e w3 ⟨rfl, hre, ho3⟩
  have HI3 := Lib.hid (HI2.out.keep ho3 (fun i h1 h2 => HD.out.2.1 i h1 h2))
  have HV3 := Lib.hid (Nst.own_keep HV2.out ho3 (fun i h1 h2 => HD.out.2.2 i h1 h2))
  have HW3 := Lib.hid hre
  have HO3 := Lib.hid (HO2.out.trans (ho3.mono HS.out.2.2))
  have HZ3 := Lib.hid (show ((shK2 x k + x.rv.length * 3 : Nat) : Int) = ((shK3 x k : Nat) : Int) from rfl)
  clear hre ho3
  rw [HZ3.out]
  go_wp2
  go_ret
  refine ⟨rfl, ⟨⟨x.P, x.c, ys, Nst.mkd (shK1 x k) x.V, x.R, x.e, marksRv (shK2 x k) x.rv.length⟩, ⟨rfl, rfl, HM.out, rfl, rfl, rfl, rfl⟩, U1, U2, U3, g, G, HI3.out, HV3.out, HW3.out, HS.out.1, HS.out.2.1, HS.out.2.2, HD.out.1, HD.out.2.1, HD.out.2.2⟩, HO3.out⟩
end Go.Proofs.Ytbhfhjhegcfdkaa
