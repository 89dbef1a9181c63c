/- Sheets copied and compared; what a sheet's reading says of its cells. -/
import Derived.Test.YtbhfhjhegcfdkaaShA
namespace Go.Proofs.Ytbhfhjhegcfdkaa
open Go.ChangeShapes Go.WideShapes Go.ChangeAt Go.RowKit Go.Deep
set_option linter.unusedVariables false

theorem only_cell (w : World) (b o : Nat) (v : Value) : Only (fun i => i = b) w (w.setCell ⟨b, o, none⟩ v) := Only.setCell (S := fun i => i = b) (Only.refl _ w) (p := ⟨b, o, none⟩) rfl _
set_option maxHeartbeats 4000000 in
theorem toSheet_c (x : Sh) (w : World) (hr : ShIn w w.heap.size x) (hl : ShFits x) :
    Calls Try.prog 6 #[x.val] w fun e w' => (∃ y, e = .returned y.val ∧ ShSame x y ∧ ShOwn (iv w.heap.size w'.heap.size) w' y) ∧ Below w.heap.size w w' := by
  have HL := Lib.hid hl
  have HR := Lib.hid hr
  clear hr hl
  unfold Sh.val
  go_enter Try.func6, Try.ntmps6
  go_wp2_with fail
  generalize hW : World.alloc (World.alloc (World.alloc w _) _) _ = W
  have hB : Below w.heap.size w W := by
    rw [← hW]
    go_grown
  have hS : W.heap.size = w.heap.size + 3 := by rw [← hW]; simp
  have hX : ImMem W w.heap.size (.slice x.P x.l.length x.c) (.slice x.V.A x.V.xs.length x.V.c) (.slice x.R x.rv.length x.e) := by
    rw [← hW]
    exact ((imMem_new w _ _ rfl _ _ _).below ((Below.refl _ _).alloc (Nat.le_refl _) _) (by simp)).below ((Below.refl _ _).alloc (Nat.le_refl _) _) (by simp; omega)
  have hN : ImMem W (w.heap.size + 1 + 1) (.slice none 0 0) (.slice none 0 0) (.slice none 0 0) := by
    rw [← hW]
    exact imMem_new _ _ _ (by simp) _ _ _
  have hM : ImMem W (w.heap.size + 1) (.slice none 0 0) (.slice none 0 0) (.slice none 0 0) := by
    rw [← hW]
    exact (imMem_new _ _ _ (by simp) _ _ _).below ((Below.refl _ _).alloc (Nat.le_refl _) _) (by simp)
  clear hW
  have h1 := toItemS_c x.P x.c x.l W ((HR.out.its.below hB (Nat.le_refl _)).up hB.size) HL.out.its
  rw [hS] at h1
  refine h1.mono ?_
  rintro e w4 ⟨rfl, ⟨ys, g, G, hs, ho⟩, hb4⟩
  have hs4 : w.heap.size + 3 ≤ w4.heap.size := by have := hb4.size; omega
  have HT4 : Hid (w.heap.size + 3 ≤ w4.heap.size) := Lib.hid hs4
  have hM4 := hM.below hb4 (by omega)
  have hX4 := hX.below hb4 (by omega)
  have hN4 := hN.below hb4 (by omega)
  have HN5 := Lib.hid (hN4.set0 (.slice (some ⟨w.heap.size + 3, 0, none⟩) x.l.length x.l.length))
  have HM5 := Lib.hid (hM4.other ⟨w.heap.size + 1 + 1, 0, none⟩ (by simp) (.slice (some ⟨w.heap.size + 3, 0, none⟩) x.l.length x.l.length))
  have HX5 := Lib.hid (hX4.other ⟨w.heap.size + 1 + 1, 0, none⟩ (by simp; omega) (.slice (some ⟨w.heap.size + 3, 0, none⟩) x.l.length x.l.length))
  obtain ⟨n0, n1, n2, nf⟩ := hN4
  have m1 := hX4.c1
  have HB5 := Lib.hid (show Below w.heap.size w (w4.setCell ⟨w.heap.size + 1 + 1, 0, none⟩ (.slice (some ⟨w.heap.size + 3, 0, none⟩) x.l.length x.l.length)) from (hB.trans (hb4.mono (by omega))).setCell (by simp; omega) _)
  have HO5 := Lib.hid (ho.keep (only_cell w4 (w.heap.size + 1 + 1) 0 (.slice (some ⟨w.heap.size + 3, 0, none⟩) x.l.length x.l.length)) (fun i hi e => by have := hi.1; omega))
  have HS5 := Lib.hid hs
  clear hM4 hX4 hM hX hN hb4 ho h1 hB hs
  go_wp2_with fail
  have hs5 : (w4.setCell ⟨w.heap.size + 1 + 1, 0, none⟩ (.slice (some ⟨w.heap.size + 3, 0, none⟩) x.l.length x.l.length)).heap.size = w4.heap.size := by simp [World.setCell]
  rw [← hs5] at hs4
  have HT5 : Hid (w4.heap.size ≤ (w4.setCell ⟨w.heap.size + 1 + 1, 0, none⟩ (.slice (some ⟨w.heap.size + 3, 0, none⟩) x.l.length x.l.length)).heap.size) := Lib.hid (Nat.le_of_eq hs5.symm)
  revert HN5 HM5 HX5 HB5 HO5 HT5
  clear hs5 n0 n1 n2 nf m1
  generalize World.setCell w4 _ _ = w5 at hs4 ⊢
  intro HN5 HM5 HX5 HB5 HO5 HT5
  refine (toIntSSS_r x.V w5 (Nst.next HR.out.vo HB5.out) HL.out.vo).mono ?_
  rintro e w6 ⟨⟨y2, rfl, he2, ho2⟩, hb6⟩
  have hs6 : w.heap.size + 3 ≤ w6.heap.size := by have := hb6.size; omega
  have hM6 := HM5.out.below hb6 (by omega)
  have hX6 := HX5.out.below hb6 (by omega)
  have hN6 := HN5.out.below hb6 (by omega)
  have HN7 := Lib.hid (hN6.set1 (.slice y2.A y2.xs.length y2.c))
  have HM7 := Lib.hid (hM6.other ⟨w.heap.size + 1 + 1, 1, none⟩ (by simp) (.slice y2.A y2.xs.length y2.c))
  have HX7 := Lib.hid (hX6.other ⟨w.heap.size + 1 + 1, 1, none⟩ (by simp; omega) (.slice y2.A y2.xs.length y2.c))
  obtain ⟨n0, n1, n2, nf⟩ := hN6
  have m1 := hX6.c2
  have HB7 := Lib.hid (show Below w.heap.size w (w6.setCell ⟨w.heap.size + 1 + 1, 1, none⟩ (.slice y2.A y2.xs.length y2.c)) from (HB5.out.trans (hb6.mono HB5.out.size)).setCell (by simp; omega) _)
  have HO7 := Lib.hid ((HO5.out.next hb6).keep (only_cell w6 (w.heap.size + 1 + 1) 1 (.slice y2.A y2.xs.length y2.c)) (fun i hi e => by have := hi.1; omega))
  have HV7 := Lib.hid (Nst.own_keep ho2 (only_cell w6 (w.heap.size + 1 + 1) 1 (.slice y2.A y2.xs.length y2.c)) (fun i hi e => by have := hi.1; omega))
  have HE7 := Lib.hid he2
  have HT6 := Lib.hid hb6.size
  clear hM6 hX6 hb6 ho2 he2 HN5 HM5 HX5 HB5 HO5 hs4
  go_wp2_with fail
  have hs7 : (w6.setCell ⟨w.heap.size + 1 + 1, 1, none⟩ (.slice y2.A y2.xs.length y2.c)).heap.size = w6.heap.size := by simp [World.setCell]
  rw [← hs7] at hs6
  have HT7 : Hid (w6.heap.size ≤ (w6.setCell ⟨w.heap.size + 1 + 1, 1, none⟩ (.slice y2.A y2.xs.length y2.c)).heap.size) := Lib.hid (Nat.le_of_eq hs7.symm)
  revert HN7 HM7 HX7 HB7 HO7 HV7 HT7
  clear hs7 n0 n1 n2 nf m1
  generalize World.setCell w6 _ _ = w7 at hs6 ⊢
  intro HN7 HM7 HX7 HB7 HO7 HV7 HT7
  refine (toReviewS_any x.R x.e x.rv w7 ((HR.out.re.below HB7.out (Nat.le_refl _)).up HB7.out.size) HL.out.re).mono ?_
  rintro e w8 ⟨rfl, ho8, hs8, hb8⟩
  have HN8 := Lib.hid (HN7.out.below hb8 (by omega))
  have HM8 := Lib.hid (HM7.out.below hb8 (by omega))
  have HO8 := Lib.hid (HO7.out.next hb8)
  have HV8 := Lib.hid (Nst.keepB HV7.out hb8)
  have HR8 := Lib.hid ho8
  have HB8 := Lib.hid (below_next HB7.out hb8)
  have q5 : Hid (w.heap.size + 3 ≤ w4.heap.size ∧ w4.heap.size ≤ w5.heap.size ∧ w5.heap.size ≤ w6.heap.size ∧ w6.heap.size ≤ w7.heap.size ∧ w7.heap.size < w8.heap.size) := Lib.hid ⟨HT4.out, HT5.out, HT6.out, HT7.out, hs8⟩
  clear hb8 ho8 HN7 HM7 HX7 HB7 HO7 HV7 HR HL
  generalize hg2 : w7.heap.size = g2 at HR8 q5 hs8 hs6 ⊢
  generalize hg1 : w.heap.size + 3 = g1 at HN8 HO8 hs6 ⊢
  generalize hq2 : w.heap.size + 1 + 1 = b2 at HN8 ⊢
  generalize hq1 : w.heap.size + 1 = b1 at HM8 ⊢
  have q0 : Hid (w.heap.size + 1 = b1 ∧ w.heap.size + 1 + 1 = b2 ∧ w.heap.size + 3 = g1) := Lib.hid ⟨hq1, hq2, hg1⟩
  have e2 : (b1 = b2) = False := by simp; omega
  have e3 : (b2 = b1) = False := by simp; omega
  clear hq1 hq2 hg1 hg2 hs8 hs6
  obtain ⟨n0, n1, n2, nf⟩ := HN8.out
  obtain ⟨m0, m1, m2, mf⟩ := HM8.out
  go_wp2_with fail
  generalize hw9 : (World.setCell (World.setCell (World.setCell (World.setCell w8 _ _) _ _) _ _) _ _) = w9
  have hn9 : ImMem w9 b1 (.slice (some ⟨g1, 0, none⟩) x.l.length x.l.length) (.slice y2.A y2.xs.length y2.c) (.slice (some ⟨g2, 0, none⟩) x.rv.length x.rv.length) := by
    have hq : b2 ≠ b1 := by rw [Ne, e3]; simp
    rw [← hw9]
    exact (((HM8.out.other _ hq _).set0 _).set1 _).set2 _
  have ht : Only (fun i => i = b1 ∨ i = b2) w8 w9 := by
    rw [← hw9]
    exact ((((Only.refl _ w8).put b2 2 (.inr rfl) _).put b1 0 (.inl rfl) _).put b1 1 (.inl rfl) _).put b1 2 (.inl rfl) _
  clear hw9 n0 n1 n2 nf m0 m1 m2 mf
  obtain ⟨m0, m1, m2, mf⟩ := hn9
  obtain ⟨h1, h2, h4⟩ := q0.out
  obtain ⟨h9, h5, h6, h7, h8⟩ := q5.out
  have hts := ht.size
  refine bodyPost_ret (v := .agg #[.slice (some ⟨g1, 0, none⟩) x.l.length x.l.length, .slice y2.A y2.xs.length y2.c, .slice (some ⟨g2, 0, none⟩) x.rv.length x.rv.length]) (by simp [results, Try.results6, go_sem, m0, m1, m2]) rfl ?_
  refine ⟨⟨⟨some ⟨g1, 0, none⟩, x.l.length, ys, y2, some ⟨g2, 0, none⟩, x.rv.length, x.rv⟩, ?_, ⟨HS5.out, HE7.out, rfl⟩, ?_⟩, HB8.out.trans (ht.below (by have := HB8.out.size; omega) (by omega))⟩
  · show Ending.returned (.agg #[.slice _ x.l.length _, _, _]) = Ending.returned (.agg #[.slice _ ys.length _, _, _])
    rw [HS5.out.len]
  · have hdis : ∀ i, i = b1 ∨ i = b2 → i < g1 := fun i hi => by omega
    refine ⟨_, _, fun i => i = g2, g, G, HO8.out.keep ht (fun i hi e => ?_), Nst.own_keep HV8.out ht (fun i hi e => ?_), fun hp => ⟨g2, 0, rfl, rfl, by omega, HR8.out.block (ht.block _ (by omega) (fun e => ?_))⟩, fun i hi => ?_, fun i hi => ?_, fun i hi => ?_, fun i h h' => ?_, fun i h h' => ?_, fun i h h' => ?_⟩
    · have := hdis i e
      have := hi.1
      omega
    · have := hdis i e
      have := hi.1
      have := HB8.out.size
      omega
    · have := hdis _ e
      omega
    · have := hi.1
      have := hi.2
      exact ⟨by omega, by omega⟩
    · have := hi.1
      have := hi.2
      exact ⟨by omega, by omega⟩
    · exact ⟨by omega, by omega⟩
    · have := h.2
      have := h'.1
      omega
    · have := h.2
      omega
    · have := h.2
      omega

theorem eqSheet_yes (x y : Sh) (w : World) (hs : ShSame x y) (hx : ShIn w w.heap.size x) (hy : ShIn w w.heap.size y) (hl : ShFits x) :
    Calls Try.prog 9 #[x.val, y.val] w fun e w' => e = .returned (.bool true) ∧ Below w.heap.size w w' := by
  have HR := Lib.hid hx
  have HR' := Lib.hid hy
  have HL := Lib.hid hl
  have HS := Lib.hid hs
  clear hx hy hl hs
  unfold Sh.val
  go_enter Try.func9, Try.ntmps9
  go_wp2_with fail
  generalize hW : World.alloc (World.alloc w _) _ = W
  have hB : Below w.heap.size w W := by
    rw [← hW]
    go_grown
  have hS : W.heap.size = w.heap.size + 2 := by rw [← hW]; simp
  have hX : ImMem W w.heap.size (.slice x.P x.l.length x.c) (.slice x.V.A x.V.xs.length x.V.c) (.slice x.R x.rv.length x.e) := by
    rw [← hW]
    exact (imMem_new w _ _ rfl _ _ _).below ((Below.refl _ _).alloc (Nat.le_refl _) _) (by simp)
  have hY : ImMem W (w.heap.size + 1) (.slice y.P y.l.length y.c) (.slice y.V.A y.V.xs.length y.V.c) (.slice y.R y.rv.length y.e) := by
    rw [← hW]
    exact imMem_new _ _ _ (by simp) _ _ _
  clear hW
  rw [HS.out.its.len]
  refine (eqItemS_yes x.P y.P x.c y.c x.l y.l W HS.out.its (HR.out.its.next hB) (HR'.out.its.next hB) HL.out.its).mono ?_
  rintro e w2 ⟨rfl, hb2⟩
  have HB2 := Lib.hid (below_next hB hb2)
  have hX2 := hX.below hb2 (by omega)
  have hY2 := hY.below hb2 (by omega)
  have x1 := hX2.c1
  have y1 := hY2.c1
  have HX := Lib.hid hX2
  have HY := Lib.hid hY2
  have hs2 : w.heap.size + 2 ≤ w2.heap.size := by have := hb2.size; omega
  clear hX hY hX2 hY2 hB hb2 hS
  go_wp2_with (go_at_call 26; refine (eqIntSSS_r x.V y.V _ HS.out.vo (Nst.next HR.out.vo HB2.out) (Nst.next HR'.out.vo HB2.out) HL.out.vo).mono ?_; rintro e w3 ⟨rfl, hb3⟩; have hX3 := HX.out.below hb3 (by omega); have hY3 := HY.out.below hb3 (by omega); have x2 := hX3.c2; have y2 := hY3.c2; rw [HS.out.re] at y2; have HB3 := Lib.hid (below_next HB2.out hb3); have hs3 : w.heap.size + 2 ≤ w3.heap.size := (by have := hb3.size; omega); clear hb3 hX3 hY3 x1 y1)
  go_wp2_with (go_at_call 27; refine (eqReviewS_yes x.R y.R x.e y.e x.rv _ ((HR.out.re.below HB3.out (Nat.le_refl _)).up HB3.out.size) (by have h := ((HR'.out.re.below HB3.out (Nat.le_refl _)).up HB3.out.size); rw [HS.out.re] at h; exact h) HL.out.re).mono ?_; rintro e w4 ⟨rfl, hb4⟩; have HB4 := Lib.hid (below_next HB3.out hb4); clear hb4)
  go_ret
  exact ⟨rfl, HB4.out⟩

section
variable {H : Type} {enc : TypeId × Value → H} {w : World}
set_option maxRecDepth 100000 in
theorem rdReview {cs : List Value} (h : Rd enc Try.prog w 78 cs) : ∃ x : Rv, cs = Flat.cells x ∧ True := by
  obtain ⟨hl, hf⟩ := rd_struct Try.underlying78 (by kernel_rfl) (by kernel_rfl) h
  obtain ⟨v0, e0, r0⟩ := hf 0 _ rfl
  obtain ⟨v1, e1, r1⟩ := hf 1 _ rfl
  obtain ⟨v2, e2, r2⟩ := hf 2 _ rfl
  obtain ⟨a, rfl, _⟩ := rd_int Try.underlying3 r0
  obtain ⟨b, rfl, _⟩ := rd_int Try.underlying3 r1
  obtain ⟨c, rfl, _⟩ := rd_int Try.underlying3 r2
  refine ⟨⟨a, b, c⟩, ?_, trivial⟩
  match cs, hl, e0, e1, e2 with
  | [a0, a1, a2], _, e0, e1, e2 =>
    obtain rfl := Option.some.inj e0
    obtain rfl := Option.some.inj e1
    obtain rfl := Option.some.inj e2
    rfl
theorem rd_one {t e : TypeId} {cs : List Value} (ht : Try.prog.underlying t = some (.slice e)) (h : Rd enc Try.prog w t cs) : ∃ v, cs = [v] := by
  obtain ⟨fuel, x, hf⟩ := h
  rcases open_slice ht hf with ⟨hc, _⟩ | ⟨a, len, cap, m, n, D, Pl, hcs, _⟩
  · exact ⟨_, hc⟩
  · exact ⟨_, hcs⟩
theorem rdIntS {cs : List Value} (h : Rd enc Try.prog w 54 cs) : ∃ x : Rw Int, cs = Flat.cells x ∧ (Nst.In w w.heap.size x ∧ Nst.Len x) := by
  obtain ⟨v, rfl⟩ := rd_one Try.underlying54 h
  obtain ⟨A, c, xs, rfl, h1, h2, h3⟩ := rd_list (α := Int) (fun _ => True) Try.underlying54 (by kernel_rfl) (by decide) (fun cs h => rdInt h) h
  exact ⟨⟨A, c, xs⟩, rfl, h2, h1⟩
theorem rdIntSS {cs : List Value} (h : Rd enc Try.prog w 44 cs) : ∃ x : Rw (Rw Int), cs = Flat.cells x ∧ (Nst.In w w.heap.size x ∧ Nst.Len x) := by
  obtain ⟨v, rfl⟩ := rd_one Try.underlying44 h
  obtain ⟨A, c, xs, rfl, h1, h2, h3⟩ := rd_list (α := Rw Int) (fun x => Nst.In w w.heap.size x ∧ Nst.Len x) Try.underlying44 (by kernel_rfl) (show 0 < 1 by decide) (fun cs h => rdIntS h) h
  exact ⟨⟨A, c, xs⟩, rfl, ⟨h2, fun i hi => (h3 i hi).1⟩, ⟨h1, fun i hi => (h3 i hi).2⟩⟩
theorem rdIntSSS {cs : List Value} (h : Rd enc Try.prog w 23 cs) : ∃ x : Rw (Rw (Rw Int)), cs = Flat.cells x ∧ (Nst.In w w.heap.size x ∧ Nst.Len x) := by
  obtain ⟨v, rfl⟩ := rd_one Try.underlying23 h
  obtain ⟨A, c, xs, rfl, h1, h2, h3⟩ := rd_list (α := Rw (Rw Int)) (fun x => Nst.In w w.heap.size x ∧ Nst.Len x) Try.underlying23 (by kernel_rfl) (show 0 < 1 by decide) (fun cs h => rdIntSS h) h
  exact ⟨⟨A, c, xs⟩, rfl, ⟨h2, fun i hi => (h3 i hi).1⟩, ⟨h1, fun i hi => (h3 i hi).2⟩⟩
set_option maxRecDepth 100000 in
theorem openReview {base : Nat} {v : Value} {d : DataW H} {p : List MemPlace} (hv : Value.okWide Try.prog w .any base 78 v) (h : DataW.Trod enc Try.prog w 0 (fun _ => true) true 78 v d p) :
    ∃ x : Rv, v = x.val ∧ True := by
  obtain ⟨cs, rfl⟩ := agg_of Try.underlying78 hv
  obtain ⟨x, hx, _⟩ := rdReview (rd_of (r := .any) (b0 := 0) h)
  refine ⟨x, ?_, trivial⟩
  have hc : cs = ⟨Rv.cs x⟩ := Array.ext' hx
  rw [hc]
  rfl
set_option maxRecDepth 100000 in
theorem openSheet {base : Nat} {v : Value} {d : DataW H} {p : List MemPlace} (hv : Value.okWide Try.prog w .any base 26 v) (h : DataW.Trod enc Try.prog w 0 (fun _ => true) true 26 v d p) :
    ∃ x : Sh, v = x.val ∧ ShIn w w.heap.size x ∧ ShLen x := by
  obtain ⟨cs, rfl⟩ := agg_of Try.underlying26 hv
  obtain ⟨hl, hf⟩ := rd_struct Try.underlying26 (by kernel_rfl) (by kernel_rfl) (rd_of (r := .any) (b0 := 0) h)
  obtain ⟨v0, e0, r0⟩ := hf 0 _ rfl
  obtain ⟨v1, e1, r1⟩ := hf 1 _ rfl
  obtain ⟨v2, e2, r2⟩ := hf 2 _ rfl
  obtain ⟨P, c, xs, rfl, hx1, hx2, hx3⟩ := rd_list (α := Im) (fun x => ImIn w w.heap.size x ∧ ItLen x) Try.underlying22 (by kernel_rfl) (by decide) (fun cs h => rdItem h) r0
  obtain ⟨V, e1', hV1, hV2⟩ := rdIntSSS r1
  obtain ⟨R, e, rv, rfl, hr1, hr2, hr3⟩ := rd_list (α := Rv) (fun x => True) Try.underlying24 (by kernel_rfl) (by decide) (fun cs h => rdReview h) r2
  obtain rfl : v1 = .slice V.A V.xs.length V.c := by
    injection e1' with e1'
  refine ⟨⟨P, c, xs, V, R, e, rv⟩, ?_, ⟨⟨hx2, fun i hi => (hx3 i hi).1⟩, hV1, hr2⟩, ⟨⟨hx1, fun i hi => (hx3 i hi).2⟩, hV2, hr1⟩⟩
  obtain ⟨cs⟩ := cs
  match cs, hl, e0, e1, e2 with
  | [a0, a1, a2], _, e0, e1, e2 =>
    obtain rfl := Option.some.inj e0
    obtain rfl := Option.some.inj e1
    obtain rfl := Option.some.inj e2
    rfl
end
end Go.Proofs.Ytbhfhjhegcfdkaa
