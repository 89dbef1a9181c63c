/- The call of a name, in the program: votesFor, callIn. -/
import Derived.Test.YtbhfhjhegcfdkaaShJ
namespace Go.Proofs.Ytbhfhjhegcfdkaa
open Go.ChangeShapes Go.WideShapes Go.ChangeAt Go.RowKit Go.Lib Go.Proofs Go.Shelf
set_option linter.unusedVariables false
attribute [local go_sem] Oper.semAt_some

/-- A name that is there, of a sheet whose votes are valid. -/
structure Spot (x : Sh) (i j : Nat) : Prop where
  vo : VtAll x.l x.V
  i1 : i < x.l.length
  j1 : j < (it x.l i).ns.length
/-- Where the votes for a name lie. -/
theorem spot_cells {x : Sh} {i j : Nat} {w : World} {B : Nat} (h : Spot x i j) (hr : Nst.In w B x.V) (k : Nat) (hk : k < 3) :
    ∃ b0 o0 b1 o1 b2 o2, x.V.A = some ⟨b0, o0, none⟩ ∧ b0 < B ∧ b1 < B ∧ b2 < B ∧ w.cell? ⟨b0, o0 + k, none⟩ = some (.slice (some ⟨b1, o1, none⟩) x.l.length (it x.V.xs k).c) ∧
      w.cell? ⟨b1, o1 + i, none⟩ = some (.slice (some ⟨b2, o2, none⟩) (it x.l i).ns.length (it (it x.V.xs k).xs i).c) ∧ w.cell? ⟨b2, o2 + j, none⟩ = some (.int .i64 (vt x.V k i j)) := by
  have hk' : k < x.V.xs.length := by rw [h.vo.len]; exact hk
  have h1 := h.vo.each k hk'
  have hi' : i < (it x.V.xs k).xs.length := by rw [h1.len]; exact h.i1
  have h2 := h1.each i h.i1
  have hj' : j < (it (it x.V.xs k).xs i).xs.length := by rw [h2.len]; exact h.j1
  have hr0 : NIn w B x.V.A x.V.xs := hr
  have hr1 : NIn w B (it x.V.xs k).A (it x.V.xs k).xs := hr0.each k hk'
  have hr2 : Lst w B (it (it x.V.xs k).xs i).A (it (it x.V.xs k).xs i).xs := hr1.each i hi'
  obtain ⟨b0, o0, e0, l0, c0⟩ := hr0.out.rw (by omega)
  obtain ⟨b1, o1, e1, l1, c1⟩ := hr1.out.rw (by omega)
  obtain ⟨b2, o2, e2, l2, c2⟩ := hr2.int (by omega)
  have d0 := c0 k hk'
  have d1 := c1 i hi'
  rw [e1, h1.len] at d0
  rw [e2, h2.len] at d1
  exact ⟨b0, o0, b1, o1, b2, o2, e0, l0, l1, l2, d0, d1, c2 j hj'⟩
theorem spot_V {x : Sh} {i j : Nat} {w : World} {B : Nat} (h : Spot x i j) (hr : Nst.In w B x.V) : ∃ b o, x.V.A = some ⟨b, o, none⟩ := by
  obtain ⟨b0, o0, _, _, _, _, e, _⟩ := spot_cells h hr 0 (by omega)
  exact ⟨b0, o0, e⟩
def upV (V : Rw (Rw (Rw Int))) (i j c k : Nat) : Int := if k < c then vt V k i j else 0
set_option maxHeartbeats 4000000 in
set_option maxRecDepth 100000 in
theorem votesFor_any (x : Sh) (i j : Nat) (w : World) (hr : ShIn w w.heap.size x) (hl : ShFits x) (hs : Spot x i j) :
    Calls Try.prog 51 #[x.val, .int .i64 i, .int .i64 j] w fun e w' => e = .returned (.agg #[.int .i64 (vt x.V 0 i j), .int .i64 (vt x.V 1 i j), .int .i64 (vt x.V 2 i j)]) ∧ Below w.heap.size w w' := by
  have hll := hl.its.len
  have hnn := (hl.its.each i hs.i1).ns.1
  have hi1 := hs.i1
  have hj1 := hs.j1
  have HS := Lib.hid hs
  have HR := Lib.hid hr
  have h3 := hs.vo.len
  clear hr hl hs
  unfold Sh.val
  rw [h3]
  go_enter Try.func51, Try.ntmps51
  go_wp2_with fail
  generalize hW : World.alloc (World.alloc (World.alloc w _) _) _ = W
  have hB : Below w.heap.size w W := by
    rw [← hW]
    go_grown
  have hS : W.heap.size = w.heap.size + 3 := by rw [← hW]; simp
  have hX : ImMem W w.heap.size (.slice x.P x.l.length x.c) (.slice x.V.A 3 x.V.c) (.slice x.R x.rv.length x.e) := by
    rw [← hW]
    exact ((imMem_new w _ _ rfl _ _ _).below ((Below.refl _ _).alloc (Nat.le_refl _) _) (by simp)).below ((Below.refl _ _).alloc (Nat.le_refl _) _) (by simp; omega)
  have hN : ImMem W (w.heap.size + 1 + 1) (.int .i64 0) (.int .i64 0) (.int .i64 0) := by
    rw [← hW]
    exact imMem_new _ _ _ (by simp) _ _ _
  have hM : ImMem W (w.heap.size + 1) (.int .i64 0) (.int .i64 0) (.int .i64 0) := by
    rw [← hW]
    exact (imMem_new _ _ _ (by simp) _ _ _).below ((Below.refl _ _).alloc (Nat.le_refl _) _) (by simp)
  clear hW
  have HX := Lib.hid hX
  have HN := Lib.hid hN
  have HM := Lib.hid hM
  have HB := Lib.hid hB
  have HRW := Lib.hid (Nst.next HR.out.vo hB)
  clear hX hN hM hB
  go_loopw [9] (fun q wr => ∃ c : Nat, c ≤ 3 ∧ q = .int .i64 c ∧ Hid (ImMem wr (w.heap.size + 1 + 1) (.int .i64 (upV x.V i j c 0)) (.int .i64 (upV x.V i j c 1)) (.int .i64 (upV x.V i j c 2))) ∧ Hid (Only (fun k => k = w.heap.size + 1 + 1) W wr)) (fun q _ => 3 - (intOf q).toNat)
  case atStart => exact ⟨0, Nat.zero_le _, rfl, HN, Lib.hid (Only.refl _ _)⟩
  case round =>
    obtain ⟨c, hc, rfl, HC, HO⟩ := hrel
    have hbk : ∀ k, k < w.heap.size + 1 + 1 → wr.heap[k]? = W.heap[k]? := fun k hk => HO.out.block k (by omega) (by omega)
    have kc : ∀ (b o : Nat), b < w.heap.size + 1 + 1 → wr.cell? ⟨b, o, none⟩ = W.cell? ⟨b, o, none⟩ := fun b o hb => World.cell?_of_block (w := W) (a := ⟨b, o, none⟩) (hbk b hb)
    have HK := Lib.hid kc
    have hsz := HO.out.size
    clear hbk kc
    by_cases hlt : c < 3
    · obtain ⟨b0, o0, b1, o1, b2, o2, e0, l0, l1, l2, d0, d1, d2⟩ := spot_cells HS.out HR.out.vo c hlt
      have g0 := (HK.out b0 (o0 + c) (by omega)).trans ((HB.out.cell (p := ⟨b0, o0 + c, none⟩) l0).trans d0)
      have g1 := (HK.out b1 (o1 + i) (by omega)).trans ((HB.out.cell (p := ⟨b1, o1 + i, none⟩) l1).trans d1)
      have g2 := (HK.out b2 (o2 + j) (by omega)).trans ((HB.out.cell (p := ⟨b2, o2 + j, none⟩) l2).trans d2)
      have x1 := (HK.out w.heap.size 1 (by omega)).trans HX.out.c1
      rw [e0] at x1
      have q1 : (0 : Int) ≤ (i : Int) := by omega
      have q2 : (i : Int) < (x.l.length : Int) := by omega
      have q3 : (0 : Int) ≤ (j : Int) := by omega
      have q4 : (j : Int) < ((it x.l i).ns.length : Int) := by omega
      clear d0 d1 d2
      have hf := HC.out.fr
      have m0 := HC.out.c0
      have m1 := HC.out.c1
      have m2 := HC.out.c2
      have HP0 := Lib.hid (HC.out.set0 (.int .i64 (vt x.V 0 i j)))
      have HP1 := Lib.hid (HC.out.set1 (.int .i64 (vt x.V 1 i j)))
      have HP2 := Lib.hid (HC.out.set2 (.int .i64 (vt x.V 2 i j)))
      rcases (show c = 0 ∨ c = 1 ∨ c = 2 by omega) with rfl | rfl | rfl
      · simp only [Nat.add_zero] at g0
        go_wp2
        go_roundw
        case rel => exact ⟨1, by omega, by go_num, HP0, Lib.hid (HO.out.put _ 0 rfl _)⟩
        case measure => simp [intOf]
      · go_wp2
        go_roundw
        case rel => exact ⟨2, by omega, by go_num, HP1, Lib.hid (HO.out.put _ 1 rfl _)⟩
        case measure => simp [intOf]
      · go_wp2
        go_roundw
        case rel => exact ⟨3, by omega, by go_num, HP2, Lib.hid (HO.out.put _ 2 rfl _)⟩
        case measure => simp [intOf]
    · obtain rfl : c = 3 := by omega
      have n0 : wr.cell? ⟨w.heap.size + 1 + 1, 0, none⟩ = some (.int .i64 (vt x.V 0 i j)) := HC.out.c0
      have n1 : wr.cell? ⟨w.heap.size + 1 + 1, 1, none⟩ = some (.int .i64 (vt x.V 1 i j)) := HC.out.c1
      have n2 : wr.cell? ⟨w.heap.size + 1 + 1, 2, none⟩ = some (.int .i64 (vt x.V 2 i j)) := HC.out.c2
      have hM' : ImMem wr (w.heap.size + 1) (.int .i64 0) (.int .i64 0) (.int .i64 0) := ⟨(HK.out _ 0 (by omega)).trans HM.out.c0, (HK.out _ 1 (by omega)).trans HM.out.c1, (HK.out _ 2 (by omega)).trans HM.out.c2, fun k => (World.frozen?_of_block (w := W) (a := ⟨w.heap.size + 1, k, none⟩) (HO.out.block (w.heap.size + 1) (by omega) (by omega))).trans (HM.out.fr k)⟩
      have HM' := Lib.hid hM'
      obtain ⟨m0, m1, m2, mf⟩ := hM'
      go_wp2_with fail
      generalize hw9 : (World.setCell (World.setCell (World.setCell wr _ _) _ _) _ _) = w9
      have hn9 : ImMem w9 (w.heap.size + 1) (.int .i64 (vt x.V 0 i j)) (.int .i64 (vt x.V 1 i j)) (.int .i64 (vt x.V 2 i j)) := by
        rw [← hw9]
        exact ((HM'.out.set0 _).set1 _).set2 _
      have ht : Only (fun k => k = w.heap.size + 1 ∨ k = w.heap.size + 1 + 1) W w9 := by
        rw [← hw9]
        exact (((HO.out.mono (fun k e => .inr e)).put _ 0 (.inl rfl) _).put _ 1 (.inl rfl) _).put _ 2 (.inl rfl) _
      clear hw9 n0 n1 n2 m0 m1 m2 mf
      obtain ⟨m0, m1, m2, mf⟩ := hn9
      refine bodyPost_ret (v := .agg #[.int .i64 (vt x.V 0 i j), .int .i64 (vt x.V 1 i j), .int .i64 (vt x.V 2 i j)]) (by simp [results, Try.results51, go_sem, m0, m1, m2]) rfl ?_
      exact ⟨rfl, HB.out.trans (ht.below (by omega) (fun k hk => by omega))⟩
end Go.Proofs.Ytbhfhjhegcfdkaa
