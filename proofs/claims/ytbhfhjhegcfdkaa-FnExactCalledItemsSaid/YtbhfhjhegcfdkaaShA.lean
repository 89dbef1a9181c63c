/- Sheets: items, votes and reviews; as the laws' helpers measure, copy, compare, mark and hold them. -/
import Derived.Test.YtbhfhjhegcfdkaaItemH
import Derived.Test.YtbhfhjhegcfdkaaRoC
import Derived.Test.YtbhfhjhegcfdkaaRev
namespace Go.Proofs.Ytbhfhjhegcfdkaa
open Go.ChangeShapes Go.WideShapes Go.ChangeAt Go.RowKit Go.Deep
set_option linter.unusedVariables false

/-- A sheet, and where its slices lie. -/
structure Sh where
  P : Option Addr
  c : Nat
  l : List Im
  V : Rw (Rw (Rw Int))
  R : Option Addr
  e : Nat
  rv : List Rv
@[reducible] def Sh.val (x : Sh) : Value := .agg #[.slice x.P x.l.length x.c, .slice x.V.A x.V.xs.length x.V.c, .slice x.R x.rv.length x.e]
structure ShIn (w : World) (B : Nat) (x : Sh) : Prop where
  its : Ims w B x.P x.l
  vo : Nst.In w B x.V
  re : Lst w B x.R x.rv
theorem ShIn.next {w w' : World} {x : Sh} (h : ShIn w w.heap.size x) (hb : Below w.heap.size w w') : ShIn w' w'.heap.size x := ⟨h.its.next hb, Nst.next h.vo hb, (h.re.below hb (Nat.le_refl _)).up hb.size⟩
structure ShLen (x : Sh) : Prop where
  its : ImsLen x.l
  vo : Nst.Len x.V
  re : x.rv.length ≤ 9223372036854775807
structure ShFits (x : Sh) : Prop where
  its : ImsFits x.l
  vo : NFit x.V
  re : x.rv.length ≤ 1048576
/-- The same sheet, wherever it lies. -/
structure ShSame (x y : Sh) : Prop where
  its : SameS x.l y.l
  vo : Nst.Eqv x.V y.V
  re : y.rv = x.rv
theorem ShSame.refl (x : Sh) : ShSame x x := ⟨SameS.refl _, Nst.eqv_refl _, rfl⟩
theorem ShSame.symm {x y : Sh} (h : ShSame x y) : ShSame y x := ⟨h.its.symm, Nst.eqv_symm h.vo, h.re.symm⟩
theorem ShSame.trans {x y z : Sh} (h : ShSame x y) (k : ShSame y z) : ShSame x z := ⟨h.its.trans k.its, Nst.eqv_trans h.vo k.vo, k.re.trans h.re⟩
theorem ShSame.fits {x y : Sh} (h : ShSame x y) (k : ShFits x) : ShFits y := ⟨h.its.fits k.its, by unfold NFit; rw [Nst.eqv_wt h.vo]; exact k.vo, by rw [h.re]; exact k.re⟩
/-- A sheet of which a call owns all. -/
structure ShOwn3 (S U1 U2 U3 : Nat → Prop) (g : Nat) (G : Nat → Nat) (w : World) (x : Sh) : Prop where
  its : ImsOwn U1 w x.P g G x.l
  vo : Nst.Own U2 w x.V
  re : Owned U3 w x.R x.rv
  s1 : ∀ i, U1 i → S i
  s2 : ∀ i, U2 i → S i
  s3 : ∀ i, U3 i → S i
  d12 : ∀ i, U1 i → ¬ U2 i
  d13 : ∀ i, U1 i → ¬ U3 i
  d23 : ∀ i, U2 i → ¬ U3 i
def ShOwn (S : Nat → Prop) (w : World) (x : Sh) : Prop := ∃ U1 U2 U3 g G, ShOwn3 S U1 U2 U3 g G w x
theorem ShOwn.sh {S : Nat → Prop} {w : World} {x : Sh} (h : ShOwn S w x) : ShIn w w.heap.size x := by
  obtain ⟨U1, U2, U3, g, G, h⟩ := h
  exact ⟨h.its.ims, Nst.own_in h.vo, h.re.lst⟩
theorem ShOwn.keep {S T : Nat → Prop} {w w' : World} {x : Sh} (h : ShOwn S w x) (k : Only T w w') (hd : ∀ i, S i → ¬ T i) : ShOwn S w' x := by
  obtain ⟨U1, U2, U3, g, G, h⟩ := h
  exact ⟨U1, U2, U3, g, G, h.its.keep k (fun i hi => hd i (h.s1 i hi)), Nst.own_keep h.vo k (fun i hi => hd i (h.s2 i hi)), h.re.keep k (fun i hi => hd i (h.s3 i hi)), h.s1, h.s2, h.s3, h.d12, h.d13, h.d23⟩
theorem ShOwn.next {S : Nat → Prop} {w w' : World} {x : Sh} (h : ShOwn S w x) (hb : Below w.heap.size w w') : ShOwn S w' x :=
  h.keep (T := fun _ => False) (Only.of_below hb (Nat.le_refl _)) (fun _ _ h => h)
theorem ShOwn.mono {S T : Nat → Prop} {w : World} {x : Sh} (h : ShOwn S w x) (hS : ∀ i, S i → T i) : ShOwn T w x := by
  obtain ⟨U1, U2, U3, g, G, h⟩ := h
  exact ⟨U1, U2, U3, g, G, h.its, h.vo, h.re, fun i hi => hS i (h.s1 i hi), fun i hi => hS i (h.s2 i hi), fun i hi => hS i (h.s3 i hi), h.d12, h.d13, h.d23⟩

theorem szSheet_any (x : Sh) (left : Int) (w : World) (hr : ShIn w w.heap.size x) (hl : ShLen x) (h0 : 0 ≤ left) (h1 : left ≤ 1048576) :
    Calls Try.prog 4 #[x.val, .int .i64 left] w fun e w' => (∃ q : Int, e = .returned (.int .i64 q) ∧ (q < 0 ∨ 0 ≤ q ∧ q ≤ left ∧ Hid (ShFits x))) ∧ Below w.heap.size w w' := by
  have hb0 := below_alloc w (.cells #[.slice x.P x.l.length x.c, .slice x.V.A x.V.xs.length x.V.c, .slice x.R x.rv.length x.e] 26)
  have HR := Lib.hid (hr.next hb0)
  have HX := Lib.hid (imMem_new w _ 26 rfl (.slice x.P x.l.length x.c) (.slice x.V.A x.V.xs.length x.V.c) (.slice x.R x.rv.length x.e))
  have HB0 := Lib.hid hb0
  have HL := Lib.hid hl
  clear hr hl hb0
  unfold Sh.val
  go_enter Try.func4, Try.ntmps4
  go_wp2_with fail
  have hsW : w.heap.size < (w.alloc (.cells #[.slice x.P x.l.length x.c, .slice x.V.A x.V.xs.length x.V.c, .slice x.R x.rv.length x.e] 26)).heap.size := by simp
  generalize World.alloc w _ = W at HR HX HB0 hsW ⊢
  refine (szItemS_any x.P x.c x.l left W HR.out.its HL.out.its h0 h1).mono ?_
  rintro e w1 ⟨⟨q, rfl, hq⟩, hb1⟩
  have HR1 := Lib.hid (HR.out.next hb1)
  have HB1 := Lib.hid (below_next HB0.out hb1)
  have hX1 := HX.out.below hb1 hsW
  have x1 := hX1.c1
  have HX1 := Lib.hid hX1
  have hs1 := Nat.lt_of_lt_of_le hsW hb1.size
  clear hb1 hX1
  rcases hq with hq | ⟨h2, h3, h4⟩
  · go_wp2
    go_ret
    exact ⟨⟨_, rfl, .inl (by omega)⟩, HB1.out⟩
  · go_wp2_with fail
    refine (szIntSSS_r x.V q w1 HR1.out.vo HL.out.vo h2 (by omega)).mono ?_
    rintro e w2 ⟨⟨p, rfl, hp⟩, hb2⟩
    have HB2 := Lib.hid (below_next HB1.out hb2)
    have x2 := (HX1.out.below hb2 hs1).c2
    have HP := Lib.hid hp
    clear hb2 hp x1
    rcases HP.out with hp | hp
    · go_wp2
      go_ret
      exact ⟨⟨_, rfl, .inl (by omega)⟩, HB2.out⟩
    · have h5 := hp.1
      have h6 : p ≤ left := by omega
      clear hp
      go_wp2_with (go_at_call 15; refine (szReviewS_any x.R x.e x.rv _ _ HL.out.re h5 (by omega)).mono ?_; rintro e w3 ⟨⟨t, rfl, ht⟩, rfl⟩; have HT := Lib.hid ht; clear ht)
      · go_ret
        exact ⟨⟨_, rfl, .inl (by omega)⟩, HB2.out⟩
      · go_ret
        refine ⟨⟨_, rfl, .inr ?_⟩, HB2.out⟩
        rcases HT.out with h | h
        · omega
        · refine ⟨h.1, by omega, Lib.hid ⟨h4.out, ?_, h.2.2⟩⟩
          have h7 := HP.out
          show Nst.wt x.V ≤ 1048576
          omega
end Go.Proofs.Ytbhfhjhegcfdkaa
