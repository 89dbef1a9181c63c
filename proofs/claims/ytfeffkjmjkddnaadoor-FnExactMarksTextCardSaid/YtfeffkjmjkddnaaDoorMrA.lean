/- Marks: grades and components; as the laws' helpers measure, copy, compare, mark and hold them; what a reading says of them. -/
import Derived.Test.YtfeffkjmjkddnaaDoorRoB
import Derived.Test.YtfeffkjmjkddnaaDoorOpen
namespace Go.Proofs.YtfeffkjmjkddnaaDoor
open Go.ChangeShapes Go.WideShapes Go.ChangeAt Go.RowKit Go.Deep
set_option linter.unusedVariables false

theorem only_cell (w : World) (b o : Nat) (v : Value) : Only (fun i => i = b) w (w.setCell ⟨b, o, none⟩ v) := Only.setCell (S := fun i => i = b) (Only.refl _ w) (p := ⟨b, o, none⟩) rfl _
/-- Two cells that may be written. -/
structure Mem2 (w : World) (b : Nat) (v0 v1 : Value) : Prop where
  c0 : w.cell? ⟨b, 0, none⟩ = some v0
  c1 : w.cell? ⟨b, 1, none⟩ = some v1
  fr : ∀ j, w.frozen? ⟨b, j, none⟩ = false
theorem Mem2.below {w w' : World} {B b : Nat} {v0 v1 : Value} (h : Mem2 w b v0 v1) (hb : Below B w w') (hB : b < B) : Mem2 w' b v0 v1 :=
  ⟨(hb.cell (p := ⟨b, 0, none⟩) hB).trans h.c0, (hb.cell (p := ⟨b, 1, none⟩) hB).trans h.c1, fun j => (World.frozen?_of_block (w := w) (a := ⟨b, j, none⟩) (hb.block b hB)).trans (h.fr j)⟩
theorem Mem2.only {S : Nat → Prop} {w w' : World} {b : Nat} {v0 v1 : Value} (h : Mem2 w b v0 v1) (ho : Only S w w') (hb : b < w.heap.size) (hn : ¬ S b) : Mem2 w' b v0 v1 :=
  ⟨(World.cell?_of_block (w := w) (a := ⟨b, 0, none⟩) (ho.block b hb hn)).trans h.c0, (World.cell?_of_block (w := w) (a := ⟨b, 1, none⟩) (ho.block b hb hn)).trans h.c1, fun j => (World.frozen?_of_block (w := w) (a := ⟨b, j, none⟩) (ho.block b hb hn)).trans (h.fr j)⟩
theorem mem2_new (w : World) (b : Nat) (t : TypeId) (hb : w.heap.size = b) (v0 v1 : Value) : Mem2 (w.alloc (.cells #[v0, v1] t)) b v0 v1 := by
  subst hb
  constructor <;> simp
theorem Mem2.set0 {w : World} {b : Nat} {v0 v1 : Value} (h : Mem2 w b v0 v1) (u : Value) : Mem2 (w.setCell ⟨b, 0, none⟩ u) b u v1 :=
  ⟨World.cell?_setCell_same w ⟨b, 0, none⟩ _ h.c0, (World.cell?_setCell_other w _ _ _ (by simp)).trans h.c1, fun j => (World.frozen?_setCell w _ _ _).trans (h.fr j)⟩
theorem Mem2.set1 {w : World} {b : Nat} {v0 v1 : Value} (h : Mem2 w b v0 v1) (u : Value) : Mem2 (w.setCell ⟨b, 1, none⟩ u) b v0 u :=
  ⟨(World.cell?_setCell_other w _ _ _ (by simp)).trans h.c0, World.cell?_setCell_same w ⟨b, 1, none⟩ _ h.c1, fun j => (World.frozen?_setCell w _ _ _).trans (h.fr j)⟩
theorem Mem2.other {w : World} {b : Nat} {v0 v1 : Value} (h : Mem2 w b v0 v1) (p : Addr) (hp : p.block ≠ b) (u : Value) : Mem2 (w.setCell p u) b v0 v1 := by
  have hn : ∀ j, p ≠ ⟨b, j, none⟩ := fun j e => hp (by rw [e])
  exact ⟨(World.cell?_setCell_other w _ _ _ (hn _)).trans h.c0, (World.cell?_setCell_other w _ _ _ (hn _)).trans h.c1, fun j => (World.frozen?_setCell w _ _ _).trans (h.fr j)⟩

/-- Marks, and where their lists lie. -/
structure Mr where
  G : Rw (Rw Int)
  C : Rw (Rw Int)
@[reducible] def Mr.val (x : Mr) : Value := .agg #[.slice x.G.A x.G.xs.length x.G.c, .slice x.C.A x.C.xs.length x.C.c]
structure MrIn (w : World) (B : Nat) (x : Mr) : Prop where
  g : Nst.In w B x.G
  c : Nst.In w B x.C
theorem MrIn.next {w w' : World} {x : Mr} (h : MrIn w w.heap.size x) (hb : Below w.heap.size w w') : MrIn w' w'.heap.size x := ⟨Nst.next h.g hb, Nst.next h.c hb⟩
structure MrLen (x : Mr) : Prop where
  g : Nst.Len x.G
  c : Nst.Len x.C
structure MrFits (x : Mr) : Prop where
  g : NFit x.G
  c : NFit x.C
/-- The same marks, wherever they lie. -/
structure MrSame (x y : Mr) : Prop where
  g : Nst.Eqv x.G y.G
  c : Nst.Eqv x.C y.C
theorem MrSame.refl (x : Mr) : MrSame x x := ⟨Nst.eqv_refl _, Nst.eqv_refl _⟩
theorem MrSame.symm {x y : Mr} (h : MrSame x y) : MrSame y x := ⟨Nst.eqv_symm h.g, Nst.eqv_symm h.c⟩
theorem MrSame.trans {x y z : Mr} (h : MrSame x y) (k : MrSame y z) : MrSame x z := ⟨Nst.eqv_trans h.g k.g, Nst.eqv_trans h.c k.c⟩
theorem MrSame.fits {x y : Mr} (h : MrSame x y) (k : MrFits x) : MrFits y := ⟨by unfold NFit; rw [Nst.eqv_wt h.g]; exact k.g, by unfold NFit; rw [Nst.eqv_wt h.c]; exact k.c⟩
/-- Marks of which a call owns all. -/
structure MrOwn2 (S U1 U2 : Nat → Prop) (w : World) (x : Mr) : Prop where
  g : Nst.Own U1 w x.G
  c : Nst.Own U2 w x.C
  s1 : ∀ i, U1 i → S i
  s2 : ∀ i, U2 i → S i
  d12 : ∀ i, U1 i → ¬ U2 i
def MrOwn (S : Nat → Prop) (w : World) (x : Mr) : Prop := ∃ U1 U2, MrOwn2 S U1 U2 w x
theorem MrOwn.mr {S : Nat → Prop} {w : World} {x : Mr} (h : MrOwn S w x) : MrIn w w.heap.size x := by
  obtain ⟨U1, U2, h⟩ := h
  exact ⟨Nst.own_in h.g, Nst.own_in h.c⟩
theorem MrOwn.keep {S T : Nat → Prop} {w w' : World} {x : Mr} (h : MrOwn S w x) (k : Only T w w') (hd : ∀ i, S i → ¬ T i) : MrOwn S w' x := by
  obtain ⟨U1, U2, h⟩ := h
  exact ⟨U1, U2, Nst.own_keep h.g k (fun i hi => hd i (h.s1 i hi)), Nst.own_keep h.c k (fun i hi => hd i (h.s2 i hi)), h.s1, h.s2, h.d12⟩
theorem MrOwn.next {S : Nat → Prop} {w w' : World} {x : Mr} (h : MrOwn S w x) (hb : Below w.heap.size w w') : MrOwn S w' x :=
  h.keep (T := fun _ => False) (Only.of_below hb (Nat.le_refl _)) (fun _ _ h => h)
theorem MrOwn.mono {S T : Nat → Prop} {w : World} {x : Mr} (h : MrOwn S w x) (hS : ∀ i, S i → T i) : MrOwn T w x := by
  obtain ⟨U1, U2, h⟩ := h
  exact ⟨U1, U2, h.g, h.c, fun i hi => hS i (h.s1 i hi), fun i hi => hS i (h.s2 i hi), h.d12⟩
/-- Marks in a box. -/
structure MrBox (w : World) (b : Nat) (x : Mr) : Prop where
  lt : b < w.heap.size
  mem : Mem2 w b (.slice x.G.A x.G.xs.length x.G.c) (.slice x.C.A x.C.xs.length x.C.c)
theorem MrBox.next {w w' : World} {b : Nat} {x : Mr} (h : MrBox w b x) (hb : Below w.heap.size w w') : MrBox w' b x := ⟨Nat.lt_of_lt_of_le h.lt hb.size, h.mem.below hb h.lt⟩
theorem MrBox.only {S : Nat → Prop} {w w' : World} {b : Nat} {x : Mr} (h : MrBox w b x) (ho : Only S w w') (hn : ¬ S b) : MrBox w' b x := ⟨Nat.lt_of_lt_of_le h.lt ho.size, h.mem.only ho h.lt hn⟩
theorem mrBox_new (w : World) (t : TypeId) (x : Mr) : MrBox (w.alloc (.cells #[.slice x.G.A x.G.xs.length x.G.c, .slice x.C.A x.C.xs.length x.C.c] t)) w.heap.size x := ⟨by simp, mem2_new w _ t rfl _ _⟩
theorem mrBox_cells {w : World} {b b' : Nat} {v0 v1 u0 u1 : Value} (h : Mem2 w b v0 v1) (k : Mem2 w b' u0 u1) : w.cell? ⟨b, 0, none⟩ = some v0 ∧ w.cell? ⟨b, 1, none⟩ = some v1 ∧ w.cell? ⟨b', 0, none⟩ = some u0 ∧ w.cell? ⟨b', 1, none⟩ = some u1 :=
  ⟨h.c0, h.c1, k.c0, k.c1⟩

theorem szMarks_any (x : Mr) (left : Int) (w : World) (hr : MrIn w w.heap.size x) (hl : MrLen x) (h0 : 0 ≤ left) (h1 : left ≤ 1048576) :
    Calls Tryd.prog 5 #[x.val, .int .i64 left] w fun e w' => (∃ q : Int, e = .returned (.int .i64 q) ∧ (q < 0 ∨ 0 ≤ q ∧ q ≤ left ∧ Hid (MrFits x))) ∧ Below w.heap.size w w' := by
  have hb0 := below_alloc w (.cells #[.slice x.G.A x.G.xs.length x.G.c, .slice x.C.A x.C.xs.length x.C.c] 24)
  have HR := Lib.hid (hr.next hb0)
  have HX := Lib.hid (mrBox_new w 24 x)
  have HB0 := Lib.hid hb0
  have HL := Lib.hid hl
  clear hr hl hb0
  unfold Mr.val
  go_enter Tryd.func5, Tryd.ntmps5
  go_wp2_with fail
  generalize World.alloc w _ = W at HR HX HB0 ⊢
  refine (szIntSS_r x.G left W HR.out.g HL.out.g h0 h1).mono ?_
  rintro e w1 ⟨⟨q, rfl, hq⟩, hb1⟩
  have HR1 := Lib.hid (HR.out.next hb1)
  have HB1 := Lib.hid (below_next HB0.out hb1)
  obtain ⟨x0, x1, xf⟩ := (HX.out.next hb1).mem
  have HQ := Lib.hid hq
  clear hb1 hq
  rcases HQ.out with hq | hq
  · go_wp2
    go_ret
    exact ⟨⟨_, rfl, .inl (by omega)⟩, HB1.out⟩
  · have h5 := hq.1
    have h6 : q ≤ left := by omega
    clear hq
    go_wp2_with (go_at_call 14; refine (szIntSS_r x.C q w1 HR1.out.c HL.out.c h5 (by omega)).mono ?_; rintro e w2 ⟨⟨p, rfl, hp⟩, hb2⟩; have HB2 := Lib.hid (below_next HB1.out hb2); have HP := Lib.hid hp; clear hb2 hp)
    · go_ret
      exact ⟨⟨_, rfl, .inl (by omega)⟩, HB2.out⟩
    · go_ret
      refine ⟨⟨_, rfl, .inr ?_⟩, HB2.out⟩
      rcases HP.out with h | h
      · omega
      · rcases HQ.out with k | k
        · omega
        · refine ⟨h.1, by omega, Lib.hid ⟨?_, ?_⟩⟩
          · show Nst.wt x.G ≤ 1048576
            omega
          · show Nst.wt x.C ≤ 1048576
            omega
set_option maxHeartbeats 2000000 in
theorem toMarks_c (x : Mr) (w : World) (hr : MrIn w w.heap.size x) (hl : MrFits x) :
    Calls Tryd.prog 7 #[x.val] w fun e w' => (∃ y, e = .returned y.val ∧ MrSame x y ∧ MrOwn (iv w.heap.size w'.heap.size) w' y) ∧ Below w.heap.size w w' := by
  have HL := Lib.hid hl
  have HR := Lib.hid hr
  clear hr hl
  unfold Mr.val
  go_enter Tryd.func7, Tryd.ntmps7
  go_wp2_with fail
  generalize hW : World.alloc (World.alloc (World.alloc w _) _) _ = W
  have hB : Below w.heap.size w W := by
    rw [← hW]
    go_grown
  have hS : W.heap.size = w.heap.size + 3 := by rw [← hW]; simp
  have hX : Mem2 W w.heap.size (.slice x.G.A x.G.xs.length x.G.c) (.slice x.C.A x.C.xs.length x.C.c) := by
    rw [← hW]
    exact ((mem2_new w _ _ rfl _ _).below ((Below.refl _ _).alloc (Nat.le_refl _) _) (by simp)).below ((Below.refl _ _).alloc (Nat.le_refl _) _) (by simp; omega)
  have hN : Mem2 W (w.heap.size + 1 + 1) (.slice none 0 0) (.slice none 0 0) := by
    rw [← hW]
    exact mem2_new _ _ _ (by simp) _ _
  have hM : Mem2 W (w.heap.size + 1) (.slice none 0 0) (.slice none 0 0) := by
    rw [← hW]
    exact (mem2_new _ _ _ (by simp) _ _).below ((Below.refl _ _).alloc (Nat.le_refl _) _) (by simp)
  clear hW
  refine (toIntSS_r x.G W (Nst.next HR.out.g hB) HL.out.g).mono ?_
  rintro e w4 ⟨⟨y1, rfl, he1, ho1⟩, hb4⟩
  have hs4 : w.heap.size + 3 ≤ w4.heap.size := by have := hb4.size; omega
  have HT4 : Hid (w.heap.size + 3 ≤ w4.heap.size) := Lib.hid hs4
  have hM4 := hM.below hb4 (by omega)
  have hX4 := hX.below hb4 (by omega)
  have hN4 := hN.below hb4 (by omega)
  have HN5 := Lib.hid (hN4.set0 (.slice y1.A y1.xs.length y1.c))
  have HM5 := Lib.hid (hM4.other ⟨w.heap.size + 1 + 1, 0, none⟩ (by simp) (.slice y1.A y1.xs.length y1.c))
  have HX5 := Lib.hid (hX4.other ⟨w.heap.size + 1 + 1, 0, none⟩ (by simp; omega) (.slice y1.A y1.xs.length y1.c))
  obtain ⟨n0, n1, nf⟩ := hN4
  have m1 := hX4.c1
  have HB5 := Lib.hid (show Below w.heap.size w (w4.setCell ⟨w.heap.size + 1 + 1, 0, none⟩ (.slice y1.A y1.xs.length y1.c)) from (hB.trans (hb4.mono (by omega))).setCell (by simp; omega) _)
  have HO5 := Lib.hid (Nst.own_keep ho1 (only_cell w4 (w.heap.size + 1 + 1) 0 (.slice y1.A y1.xs.length y1.c)) (fun i hi e => by have := hi.1; omega))
  have HS5 := Lib.hid he1
  have HT0 := Lib.hid hS
  clear hM4 hX4 hM hX hN hb4 ho1 he1 hB hS
  go_wp2_with fail
  have hs5 : (w4.setCell ⟨w.heap.size + 1 + 1, 0, none⟩ (.slice y1.A y1.xs.length y1.c)).heap.size = w4.heap.size := by simp [World.setCell]
  rw [← hs5] at hs4
  have HT5 : Hid (w4.heap.size ≤ (w4.setCell ⟨w.heap.size + 1 + 1, 0, none⟩ (.slice y1.A y1.xs.length y1.c)).heap.size) := Lib.hid (Nat.le_of_eq hs5.symm)
  revert HN5 HM5 HX5 HB5 HO5 HT5
  clear hs5 n0 n1 nf m1
  generalize World.setCell w4 _ _ = w5 at hs4 ⊢
  intro HN5 HM5 HX5 HB5 HO5 HT5
  refine (toIntSS_r x.C w5 (Nst.next HR.out.c HB5.out) HL.out.c).mono ?_
  rintro e w6 ⟨⟨y2, rfl, he2, ho2⟩, hb6⟩
  have hs6 : w.heap.size + 3 ≤ w6.heap.size := by have := hb6.size; omega
  have HN6 := Lib.hid (HN5.out.below hb6 (by omega))
  have HM6 := Lib.hid (HM5.out.below hb6 (by omega))
  have HO6 := Lib.hid (Nst.keepB HO5.out hb6)
  have HV6 := Lib.hid ho2
  have HE6 := Lib.hid he2
  have HB6 := Lib.hid (below_next HB5.out hb6)
  have q5 : Hid (W.heap.size = w.heap.size + 3 ∧ w4.heap.size ≤ w5.heap.size ∧ w5.heap.size ≤ w6.heap.size) := Lib.hid ⟨HT0.out, HT5.out, hb6.size⟩
  clear hb6 ho2 he2 HN5 HM5 HX5 HB5 HO5 HT5 HT0 hs4
  generalize hq2 : w.heap.size + 1 + 1 = b2 at HN6 ⊢
  generalize hq1 : w.heap.size + 1 = b1 at HM6 ⊢
  have q0 : Hid (w.heap.size + 1 = b1 ∧ w.heap.size + 1 + 1 = b2) := Lib.hid ⟨hq1, hq2⟩
  have e2 : (b1 = b2) = False := by simp; omega
  have e3 : (b2 = b1) = False := by simp; omega
  have HT6 := Lib.hid hs6
  clear hq1 hq2 hs6
  obtain ⟨n0, n1, nf⟩ := HN6.out
  obtain ⟨m0, m1, mf⟩ := HM6.out
  go_wp2_with fail
  generalize hw9 : (World.setCell (World.setCell (World.setCell w6 _ _) _ _) _ _) = w9
  have hn9 : Mem2 w9 b1 (.slice y1.A y1.xs.length y1.c) (.slice y2.A y2.xs.length y2.c) := by
    have hq : b2 ≠ b1 := by rw [Ne, e3]; simp
    rw [← hw9]
    exact ((HM6.out.other _ hq _).set0 _).set1 _
  have ht : Only (fun i => i = b1 ∨ i = b2) w6 w9 := by
    rw [← hw9]
    exact (((Only.refl _ w6).put b2 1 (.inr rfl) _).put b1 0 (.inl rfl) _).put b1 1 (.inl rfl) _
  clear hw9 n0 n1 nf m0 m1 mf
  obtain ⟨m0, m1, mf⟩ := hn9
  obtain ⟨h1, h2⟩ := q0.out
  obtain ⟨h5, h6, h7⟩ := q5.out
  have h8 := HT6.out
  have h9 := HT4.out
  have hts := ht.size
  refine bodyPost_ret (v := .agg #[.slice y1.A y1.xs.length y1.c, .slice y2.A y2.xs.length y2.c]) (by simp [results, Tryd.results7, go_sem, m0, m1]) rfl ?_
  refine ⟨⟨⟨y1, y2⟩, rfl, ⟨HS5.out, HE6.out⟩, ?_⟩, HB6.out.trans (ht.below (by have := HB6.out.size; omega) (by omega))⟩
  have hdis : ∀ i, i = b1 ∨ i = b2 → i < w.heap.size + 3 := fun i hi => by omega
  refine ⟨_, _, Nst.own_keep HO6.out ht (fun i hi e => ?_), Nst.own_keep HV6.out ht (fun i hi e => ?_), fun i hi => ?_, fun i hi => ?_, fun i h h' => ?_⟩
  · have := hdis i e
    have := hi.1
    omega
  · have := hdis i e
    have := hi.1
    omega
  · have := hi.1
    have := hi.2
    exact ⟨by omega, by omega⟩
  · have := hi.1
    have := hi.2
    exact ⟨by omega, by omega⟩
  · have := h.2
    have := h'.1
    omega
theorem eqMarks_yes (x y : Mr) (w : World) (hs : MrSame x y) (hx : MrIn w w.heap.size x) (hy : MrIn w w.heap.size y) (hl : MrFits x) :
    Calls Tryd.prog 9 #[x.val, y.val] w fun e w' => e = .returned (.bool true) ∧ Below w.heap.size w w' := by
  have HR := Lib.hid hx
  have HR' := Lib.hid hy
  have HL := Lib.hid hl
  have HS := Lib.hid hs
  clear hx hy hl hs
  unfold Mr.val
  go_enter Tryd.func9, Tryd.ntmps9
  go_wp2_with fail
  generalize hW : World.alloc (World.alloc w _) _ = W
  have hB : Below w.heap.size w W := by
    rw [← hW]
    go_grown
  have hS : W.heap.size = w.heap.size + 2 := by rw [← hW]; simp
  have hX : Mem2 W w.heap.size (.slice x.G.A x.G.xs.length x.G.c) (.slice x.C.A x.C.xs.length x.C.c) := by
    rw [← hW]
    exact (mem2_new w _ _ rfl _ _).below ((Below.refl _ _).alloc (Nat.le_refl _) _) (by simp)
  have hY : Mem2 W (w.heap.size + 1) (.slice y.G.A y.G.xs.length y.G.c) (.slice y.C.A y.C.xs.length y.C.c) := by
    rw [← hW]
    exact mem2_new _ _ _ (by simp) _ _
  clear hW
  refine (eqIntSS_r x.G y.G W HS.out.g (Nst.next HR.out.g hB) (Nst.next HR'.out.g hB) HL.out.g).mono ?_
  rintro e w2 ⟨rfl, hb2⟩
  have HB2 := Lib.hid (below_next hB hb2)
  have x1 := (hX.below hb2 (by omega)).c1
  have y1 := (hY.below hb2 (by omega)).c1
  clear hX hY hB hb2 hS
  go_wp2_with (go_at_call 20; refine (eqIntSS_r x.C y.C _ HS.out.c (Nst.next HR.out.c HB2.out) (Nst.next HR'.out.c HB2.out) HL.out.c).mono ?_; rintro e w3 ⟨rfl, hb3⟩; have HB3 := Lib.hid (below_next HB2.out hb3); clear hb3)
  go_ret
  exact ⟨rfl, HB3.out⟩
/-- The marks behind the grades, behind the components. -/
def mrK1 (x : Mr) (k : Nat) : Nat := k + Nst.cnt x.G
def mrK2 (x : Mr) (k : Nat) : Nat := mrK1 x k + Nst.cnt x.C
structure MarkedMr (x : Mr) (k : Nat) (y : Mr) : Prop where
  G : y.G = Nst.mkd k x.G
  C : y.C = Nst.mkd (mrK1 x k) x.C
theorem mrK_le {x : Mr} (hl : MrFits x) (k : Nat) (hk2 : k ≤ 10000000000000) : k ≤ mrK1 x k ∧ mrK1 x k ≤ k + 1048576 ∧ mrK1 x k ≤ mrK2 x k ∧ mrK2 x k ≤ k + 2097152 := by
  have h3 := Nat.le_trans (Nst.cnt_le x.G) hl.g
  have h4 := Nat.le_trans (Nst.cnt_le x.C) hl.c
  have h5 : mrK1 x k = k + Nst.cnt x.G := rfl
  have h6 : mrK2 x k = mrK1 x k + Nst.cnt x.C := rfl
  omega
set_option maxHeartbeats 2000000 in
theorem markMarks_any (S : Nat → Prop) (x : Mr) (m : Int) (k : Nat) (w : World) (hm : m = (k : Int)) (hr : MrOwn S w x) (hS : ∀ i, S i → i < w.heap.size) (hl : MrFits x) (hk2 : k ≤ 10000000000000) :
    Calls Tryd.prog 12 #[x.val, .int .i64 m] w fun e w' => e = .returned (.int .i64 ((mrK2 x k : Nat) : Int)) ∧ (∃ y, MarkedMr x k y ∧ MrOwn S w' y) ∧ Only S w w' := by
  subst hm
  obtain ⟨U1, U2, h⟩ := hr
  have hb0 := below_alloc w (.cells #[.slice x.G.A x.G.xs.length x.G.c, .slice x.C.A x.C.xs.length x.C.c] 28)
  have HI := Lib.hid (Nst.keepB h.g hb0)
  have HV := Lib.hid (Nst.keepB h.c hb0)
  have HX := Lib.hid (mrBox_new w 28 x)
  have HO0 := Lib.hid (show Only S w (w.alloc (.cells #[.slice x.G.A x.G.xs.length x.G.c, .slice x.C.A x.C.xs.length x.C.c] 28)) from (Only.of_below (S := fun _ => False) hb0 (Nat.le_refl _)).mono (fun _ e => e.elim))
  have HS := Lib.hid (And.intro h.s1 h.s2)
  have HD := Lib.hid h.d12
  have HN := Lib.hid hS
  have HF := Lib.hid hl
  have HK := Lib.hid (mrK_le hl k hk2)
  clear h hb0 hS hl
  unfold Mr.val
  go_enter Tryd.func12, Tryd.ntmps12
  go_wp2_with fail
  generalize World.alloc w _ = W at HI HV HX HO0 ⊢
  refine (markIntSS_r U1 x.G _ k W rfl HI.out HF.out.g (by omega)).mono ?_
  rintro e w1 ⟨rfl, hio, ho1⟩
  have hn1 : ¬ U1 w.heap.size := fun q => by have := HN.out _ (HS.out.1 _ q); omega
  obtain ⟨x0, x1, xf⟩ := (HX.out.only ho1 hn1).mem
  have HV1 := Lib.hid (Nst.own_keep HV.out ho1 (fun i h1 h2 => HD.out i h2 h1))
  have HI1 := Lib.hid hio
  have HO1 := Lib.hid (HO0.out.trans (ho1.mono HS.out.1))
  have HZ1 := Lib.hid (show ((k + Nst.cnt x.G : Nat) : Int) = ((mrK1 x k : Nat) : Int) from rfl)
  clear hn1 ho1 hio
  rw [HZ1.out]
  go_wp2_with fail
  clear x0 x1 xf
  refine (markIntSS_r U2 x.C _ (mrK1 x k) w1 rfl HV1.out HF.out.c (by have := HK.out; omega)).mono ?_
  rintro e w2 ⟨rfl, hvo, ho2⟩
  have HI2 := Lib.hid (Nst.own_keep HI1.out ho2 (fun i h1 h2 => HD.out i h1 h2))
  have HV2 := Lib.hid hvo
  have HO2 := Lib.hid (HO1.out.trans (ho2.mono HS.out.2))
  have HZ2 := Lib.hid (show ((mrK1 x k + Nst.cnt x.C : Nat) : Int) = ((mrK2 x k : Nat) : Int) from rfl)
  clear ho2 hvo
  rw [HZ2.out]
  go_wp2
  go_ret
  refine ⟨rfl, ⟨⟨Nst.mkd k x.G, Nst.mkd (mrK1 x k) x.C⟩, ⟨rfl, rfl⟩, U1, U2, HI2.out, HV2.out, HS.out.1, HS.out.2, HD.out⟩, HO2.out⟩
set_option maxHeartbeats 2000000 in
theorem heldMarks_any (x y : Mr) (m : Int) (k : Nat) (w : World) (hm : m = (k : Int)) (hy : MarkedMr x k y) (hr : MrIn w w.heap.size y) (hl : MrFits x) (hk2 : k ≤ 10000000000000) :
    Calls Tryd.prog 13 #[x.val, .int .i64 m] w fun e w' => e = .returned (.int .i64 ((mrK2 x k : Nat) : Int)) ∧ Below w.heap.size w w' := by
  subst hm
  obtain ⟨G, C⟩ := y
  obtain ⟨e1, e2⟩ := hy
  simp only at e1 e2
  subst e1 e2
  have hb0 := below_alloc w (.cells #[.slice x.G.A x.G.xs.length x.G.c, .slice x.C.A x.C.xs.length x.C.c] 28)
  have HR := Lib.hid (hr.next hb0)
  have HB0 := Lib.hid hb0
  have HX := Lib.hid (mrBox_new w 28 x)
  have HF := Lib.hid hl
  have HK := Lib.hid (mrK_le hl k hk2)
  clear hb0 hl hr
  unfold Mr.val
  go_enter Tryd.func13, Tryd.ntmps13
  go_wp2_with fail
  generalize World.alloc w _ = W at HR HX HB0 ⊢
  refine (heldIntSS_r x.G _ k W rfl HR.out.g HF.out.g (by omega)).mono ?_
  rintro e w1 ⟨rfl, hb1⟩
  obtain ⟨x0, x1, xf⟩ := (HX.out.next hb1).mem
  have HR1 := Lib.hid (HR.out.next hb1)
  have HB1 := Lib.hid (below_next HB0.out hb1)
  have HZ1 := Lib.hid (show ((k + Nst.cnt x.G : Nat) : Int) = ((mrK1 x k : Nat) : Int) from rfl)
  clear hb1
  rw [HZ1.out]
  go_wp2_with fail
  clear x0 x1 xf
  refine (heldIntSS_r x.C _ (mrK1 x k) w1 rfl HR1.out.c HF.out.c (by have := HK.out; omega)).mono ?_
  rintro e w2 ⟨rfl, hb2⟩
  have HB2 := Lib.hid (below_next HB1.out hb2)
  have HZ2 := Lib.hid (show ((mrK1 x k + Nst.cnt x.C : Nat) : Int) = ((mrK2 x k : Nat) : Int) from rfl)
  clear hb2
  rw [HZ2.out]
  go_wp2
  go_ret
  exact ⟨rfl, HB2.out⟩

section
variable {H : Type} {enc : TypeId × Value → H} {w : World}
theorem agg_of {P : Program} {base : Nat} {t : TypeId} {fs : Array Field} {v : Value} (ht : P.underlying t = some (.struct fs)) (h : Value.okWide P w .any base t v) : ∃ cs, v = .agg cs := by
  unfold Value.okWide at h
  simp only [ht] at h
  obtain ⟨cs, rfl, _⟩ := h
  exact ⟨cs, rfl⟩
theorem rd_one {t e : TypeId} {cs : List Value} (ht : Tryd.prog.underlying t = some (.slice e)) (h : Rd enc Tryd.prog w t cs) : ∃ v, cs = [v] := by
  obtain ⟨fuel, x, hf⟩ := h
  rcases open_slice ht hf with ⟨hc, _⟩ | ⟨a, len, cap, m, n, D, Pl, hcs, _⟩
  · exact ⟨_, hc⟩
  · exact ⟨_, hcs⟩
theorem rdInt {cs : List Value} (h : Rd enc Tryd.prog w 3 cs) : ∃ x : Int, cs = Flat.cells x ∧ True := by
  have h0 := h
  obtain ⟨fuel, x, hf⟩ := h
  obtain ⟨n, hc, _, hw⟩ := DataW.trod_int Tryd.underlying3 hf
  refine ⟨n, ?_, trivial⟩
  show cs = [Value.int .i64 n]
  simpa using hc
theorem rdIntS {cs : List Value} (h : Rd enc Tryd.prog w 41 cs) : ∃ x : Rw Int, cs = Flat.cells x ∧ (Nst.In w w.heap.size x ∧ Nst.Len x) := by
  obtain ⟨v, rfl⟩ := rd_one Tryd.underlying41 h
  obtain ⟨A, c, xs, rfl, h1, h2, h3⟩ := rd_list (α := Int) (fun _ => True) Tryd.underlying41 (by kernel_rfl) (by decide) (fun cs h => rdInt h) h
  exact ⟨⟨A, c, xs⟩, rfl, h2, h1⟩
theorem rdIntSS {cs : List Value} (h : Rd enc Tryd.prog w 22 cs) : ∃ x : Rw (Rw Int), cs = Flat.cells x ∧ (Nst.In w w.heap.size x ∧ Nst.Len x) := by
  obtain ⟨v, rfl⟩ := rd_one Tryd.underlying22 h
  obtain ⟨A, c, xs, rfl, h1, h2, h3⟩ := rd_list (α := Rw Int) (fun x => Nst.In w w.heap.size x ∧ Nst.Len x) Tryd.underlying22 (by kernel_rfl) (show 0 < 1 by decide) (fun cs h => rdIntS h) h
  exact ⟨⟨A, c, xs⟩, rfl, ⟨h2, fun i hi => (h3 i hi).1⟩, ⟨h1, fun i hi => (h3 i hi).2⟩⟩
set_option maxRecDepth 100000 in
theorem openMarks {base : Nat} {v : Value} {d : DataW H} {p : List MemPlace} (hv : Value.okWide Tryd.prog w .any base 24 v) (h : DataW.Trod enc Tryd.prog w 0 (fun _ => true) true 24 v d p) :
    ∃ x : Mr, v = x.val ∧ MrIn w w.heap.size x ∧ MrLen x := by
  obtain ⟨cs, rfl⟩ := agg_of Tryd.underlying24 hv
  obtain ⟨hl, hf⟩ := rd_struct Tryd.underlying24 (by kernel_rfl) (by kernel_rfl) (rd_of (r := .any) (b0 := 0) h)
  obtain ⟨v0, e0, r0⟩ := hf 0 _ rfl
  obtain ⟨v1, e1, r1⟩ := hf 1 _ rfl
  obtain ⟨G, e0', hG1, hG2⟩ := rdIntSS r0
  obtain ⟨C, e1', hC1, hC2⟩ := rdIntSS r1
  obtain rfl : v0 = .slice G.A G.xs.length G.c := by
    injection e0' with e0'
  obtain rfl : v1 = .slice C.A C.xs.length C.c := by
    injection e1' with e1'
  refine ⟨⟨G, C⟩, ?_, ⟨hG1, hC1⟩, ⟨hG2, hC2⟩⟩
  obtain ⟨cs⟩ := cs
  match cs, hl, e0, e1 with
  | [a0, a1], _, e0, e1 =>
    obtain rfl := Option.some.inj e0
    obtain rfl := Option.some.inj e1
    rfl
end
end Go.Proofs.YtfeffkjmjkddnaaDoor
