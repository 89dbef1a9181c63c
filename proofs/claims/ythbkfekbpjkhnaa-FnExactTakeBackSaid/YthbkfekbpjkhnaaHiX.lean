/- TakeBack of the program: a range over slices.Backward of the records. -/
import Derived.Test.YthbkfekbpjkhnaaHiXs
import Derived.Test.YthbkfekbpjkhnaaHiXa
import Derived.ChangeKeysEq
namespace Go.Proofs.Ythbkfekbpjkhnaa
open Go.ChangeShapes Go.WideShapes Go.ChangeAt Go.RowKit Go.Lib Go.Proofs Go.Shelf
set_option linter.unusedVariables false
attribute [local go_sem] Oper.semAt_some

theorem owned_kept {α : Type} [Flat α] {S : Nat → Prop} {W W' : World} {row : Option Nat} {R : Option Addr} {V : List α} (h : Owned S W R V) (hs : 0 < Flat.sz α) (hg : W.grownBy W' row) (hrow : ∀ r, row = some r → ∃ o : Obj, W.heap[r]? = some o ∧ o.isCells = false) : Owned S W' R V := fun hp => by
  obtain ⟨g, o, rfl, h1, h2, h3⟩ := h hp
  have hl : (Flat.cells (it V 0)).length = Flat.sz α := Flat.len _
  obtain ⟨v, hv⟩ : ∃ v, (Flat.cells (it V 0))[0]? = some v := ⟨_, List.getElem?_eq_getElem (by omega)⟩
  obtain ⟨ob, ho, hc⟩ := cells_of_cell (h3.cell 0 hp 0 v hv)
  exact ⟨g, o, rfl, h1, Nat.lt_of_lt_of_le h2 hg.size, h3.block (grownBy_keeps_cells hg hrow ho hc)⟩
theorem keeps_below {B : Nat} {W W' : World} (hb : Below W.heap.size W W') : KeepsFrom B W W' := ⟨hb.size, fun k o _ hk _ => (hb.block k (Array.getElem?_eq_some_iff.1 hk).1).trans hk⟩
/-- All records have gone by, the last one first, and all were reviews. -/
theorem backR_all {rs : List Rc} {hs : List Cg} (hl : rs.length = hs.length) (he : ∀ j, j < hs.length → (it rs j).x = it hs j) (h : ∀ p ∈ upto (backRF rs) rs.length, p.2.x.review = true) : lnK hs hs.length = 0 := by
  rw [lnK_skip (m := 0) (Nat.zero_le _) (fun p _ hp => ?_)]
  · rfl
  · have h1 := h (backRF rs (rs.length - 1 - p)) (by simp only [upto, List.mem_map, List.mem_range]; exact ⟨_, by omega, rfl⟩)
    unfold backRF at h1
    rw [show rs.length - 1 - (rs.length - 1 - p) = p by omega] at h1
    rw [← he p hp]
    exact h1
theorem backR_hit {rs : List Rc} {hs : List Cg} {k : Nat} (hl : rs.length = hs.length) (he : ∀ j, j < hs.length → (it rs j).x = it hs j) (hk : k < rs.length) (h : ∀ p ∈ upto (backRF rs) k, p.2.x.review = true) (hm : (backRF rs k).2.x.review = false) : lnK hs hs.length = hs.length - 1 - k + 1 := by
  have h2 : lnK hs hs.length = lnK hs (hs.length - 1 - k + 1) := lnK_skip (by omega) (fun p h1 hp => by
    have h3 := h (backRF rs (rs.length - 1 - p)) (by simp only [upto, List.mem_map, List.mem_range]; exact ⟨_, by omega, rfl⟩)
    unfold backRF at h3
    rw [show rs.length - 1 - (rs.length - 1 - p) = p by omega] at h3
    rw [← he p hp]
    exact h3)
  rw [h2]
  refine lnK_hit ?_
  unfold backRF at hm
  rw [hl] at hm
  rw [← he _ (by omega)]
  exact hm
/-- What a round asks to add. -/
def tbR (t r : Int) (x : Rc) : Cg := ⟨t, r, x.x.item, x.x.name, x.before, false⟩
theorem owned_in {S : Nat → Prop} {W : World} {R : Option Addr} {V : List Cg} (h : Owned S W R V) : Owned (fun i => S i ∧ i < W.heap.size) W R V := fun hp => by
  obtain ⟨g, o, e, h1, h2, h3⟩ := h hp
  exact ⟨g, o, e, ⟨h1, h2⟩, h2, h3⟩
structure TbW (w W : World) (xs : List Im) (hs : List Cg) (t r : Int) (x : Rc) (R : Option Addr) (d : Nat) : Prop where
  c8 : W.cell? ⟨w.heap.size + 1 + 1 + 1 + 1, 0, none⟩ = some (.slice R (adF xs hs (tbR t r x)).length d)
  c9 : W.cell? ⟨w.heap.size + 1 + 1 + 1 + 1 + 1, 0, none⟩ = some (.bool (pB (AdOk xs hs (tbR t r x))))
  own : Owned (fun i => w.heap.size ≤ i) W R (adF xs hs (tbR t r x))
set_option maxRecDepth 100000 in
set_option maxHeartbeats 4000000 in
theorem iTakeBack_a (P : Option Addr) (c : Nat) (xs : List Im) (A : Option Addr) (ch : Nat) (hs : List Cg) (t r : Int) (w : World) (hr : Ims w w.heap.size P xs) (hl : ImsFits xs) (hg : Lst w w.heap.size A hs) (hgl : hs.length ≤ 1048576) (hcap : hs.length ≤ ch ∧ ch ≤ 9223372036854775807) :
    Calls Try.prog 43 #[.slice P xs.length c, .slice A hs.length ch, .int .i64 t, .int .i64 r] w (CgAns w (tbF xs hs t r) (TbOk xs hs t r)) := by
  have HR := Lib.hid hr
  have HF := Lib.hid hl
  have HG := Lib.hid hg
  have HCP := Lib.hid hcap
  clear hr hl hg hcap
  refine (callsIn_wide (n := 3)).1 ?_
  refine callsIn_of_wp_marks Try.func43 rfl trivial ?_ rfl
  simp only [Try.ntmps43, List.size_toArray, List.length_cons, List.length_nil, Nat.reduceAdd, Nat.reduceSub, Array.replicate_succ, Array.replicate_zero, List.push_toArray, List.append_toArray, List.nil_append, List.cons_append]
  gi_wp2_with fail
  generalize hW : World.alloc (World.alloc (World.alloc (World.alloc (World.alloc (World.alloc w _) _) _) _) _) _ = W0
  have hB : Below w.heap.size w W0 := by
    rw [← hW]
    go_grown
  have hS : W0.heap.size = w.heap.size + 6 := by rw [← hW]; simp
  have g0 : W0.cell? ⟨w.heap.size, 0, none⟩ = some (.slice P xs.length c) := by
    rw [← hW, alloc_old _ _ _ (by simp <;> omega), alloc_old _ _ _ (by simp <;> omega), alloc_old _ _ _ (by simp <;> omega), alloc_old _ _ _ (by simp <;> omega), alloc_old _ _ _ (by simp <;> omega)]
    exact (new_one _ _ _ _ (by simp)).1
  have g1 : W0.cell? ⟨w.heap.size + 1, 0, none⟩ = some (.slice A hs.length ch) := by
    rw [← hW, alloc_old _ _ _ (by simp <;> omega), alloc_old _ _ _ (by simp <;> omega), alloc_old _ _ _ (by simp <;> omega), alloc_old _ _ _ (by simp <;> omega)]
    exact (new_one _ _ _ _ (by simp)).1
  have g2 : W0.cell? ⟨w.heap.size + 1 + 1, 0, none⟩ = some (.int .i64 t) := by
    rw [← hW, alloc_old _ _ _ (by simp <;> omega), alloc_old _ _ _ (by simp <;> omega), alloc_old _ _ _ (by simp <;> omega)]
    exact (new_one _ _ _ _ (by simp)).1
  have g3 : W0.cell? ⟨w.heap.size + 1 + 1 + 1, 0, none⟩ = some (.int .i64 r) := by
    rw [← hW, alloc_old _ _ _ (by simp <;> omega), alloc_old _ _ _ (by simp <;> omega)]
    exact (new_one _ _ _ _ (by simp)).1
  have g4 : W0.cell? ⟨w.heap.size + 1 + 1 + 1 + 1, 0, none⟩ = some (.slice none 0 0) := by
    rw [← hW, alloc_old _ _ _ (by simp <;> omega)]
    exact (new_one _ _ _ _ (by simp)).1
  have g5 : W0.cell? ⟨w.heap.size + 1 + 1 + 1 + 1 + 1, 0, none⟩ = some (.bool false) := by
    rw [← hW]
    exact (new_one _ _ _ _ (by simp)).1
  have f4 : W0.frozen? ⟨w.heap.size + 1 + 1 + 1 + 1, 0, none⟩ = false := by
    rw [← hW, alloc_oldF _ _ _ (by simp <;> omega)]
    exact (new_one _ _ _ _ (by simp)).2
  have f5 : W0.frozen? ⟨w.heap.size + 1 + 1 + 1 + 1 + 1, 0, none⟩ = false := by
    rw [← hW]
    exact (new_one _ _ _ _ (by simp)).2
  clear hW
  have hRC := recordsOf_any P c xs A ch hs W0 (HR.out.next hB) HF.out ((HG.out.below hB (Nat.le_refl _)).up hB.size) hgl HCP.out
  refine ⟨trivial, (callsIn_wide.2 hRC).mono ?_⟩
  rintro e w2 ⟨⟨R, d, rs, rfl, hlst, hyes, hno⟩, hb2⟩
  clear hRC
  gi_wp2_with (refine ⟨trivial, ?_⟩; gi_at_call 69; refine (backR_in Fence.wide (3 - 1) trivial rfl _ _ _ _).mono ?_; rintro e w' ⟨rfl, rfl⟩)
  generalize hW3 : World.alloc w2 _ = W3
  have hB3 : Below w2.heap.size w2 W3 := by
    rw [← hW3]
    exact below_alloc _ _
  have hs3 : w2.heap.size < W3.heap.size := by rw [← hW3]; simp
  have gs : W3.cell? ⟨w2.heap.size, 0, none⟩ = some (.slice R rs.length d) := by
    rw [← hW3]
    exact (new_one _ _ _ _ rfl).1
  clear hW3
  have hb03 := below_next hb2 hB3
  have g0 := (hb03.cell (p := ⟨w.heap.size, 0, none⟩) (by show w.heap.size < _; omega)).trans g0
  have g1 := (hb03.cell (p := ⟨w.heap.size + 1, 0, none⟩) (by show w.heap.size + 1 < _; omega)).trans g1
  have g2 := (hb03.cell (p := ⟨w.heap.size + 1 + 1, 0, none⟩) (by show w.heap.size + 1 + 1 < _; omega)).trans g2
  have g3 := (hb03.cell (p := ⟨w.heap.size + 1 + 1 + 1, 0, none⟩) (by show w.heap.size + 1 + 1 + 1 < _; omega)).trans g3
  have g4 := (hb03.cell (p := ⟨w.heap.size + 1 + 1 + 1 + 1, 0, none⟩) (by show w.heap.size + 1 + 1 + 1 + 1 < _; omega)).trans g4
  have g5 := (hb03.cell (p := ⟨w.heap.size + 1 + 1 + 1 + 1 + 1, 0, none⟩) (by show w.heap.size + 1 + 1 + 1 + 1 + 1 < _; omega)).trans g5
  have f4 := (World.frozen?_of_block (w := W0) (a := ⟨w.heap.size + 1 + 1 + 1 + 1, 0, none⟩) (hb03.block (w.heap.size + 1 + 1 + 1 + 1) (by omega))).trans f4
  have f5 := (World.frozen?_of_block (w := W0) (a := ⟨w.heap.size + 1 + 1 + 1 + 1 + 1, 0, none⟩) (hb03.block (w.heap.size + 1 + 1 + 1 + 1 + 1) (by omega))).trans f5
  have hB := Below_next hB hb03
  have hRs := ((hlst.below hB3 (Nat.le_refl _)).up hB3.size)
  have hw3 : w.heap.size + 6 ≤ W3.heap.size := by have := hb03.size; omega
  have hrl : rs.length ≤ 1048576 := by
    by_cases hok : HiOk xs hs
    · rw [hyes hok, rcTo_len]
      exact hgl
    · rw [hno hok]
      simp
  have HYN := Lib.hid (And.intro hyes hno)
  clear hb2 hB3 hb03 hlst hyes hno
  generalize pB (HiOk xs hs) = okb
  refine wpIn_rangeFunc_ownH (F := Fence.wide) rfl (by omega) (gf := 89) (lb := #[.pointer (some ⟨w2.heap.size, 0, none⟩)]) rfl trivial (enters_of Try.func89 (by kernel_rfl) rfl)
    (backR_stops Fence.wide (3 - 1) trivial rfl (by omega) w2.heap.size W3.heap.size d R rs hrl W3 hs3 (Nat.le_refl _) gs hRs) belowK_t (belowK_b (Nat.le_refl _)) (Below.refl _ _) (fun _ => rfl)
    (fun pre W => (∀ p ∈ pre, p.2.x.review = true) ∧ Below W3.heap.size W3 W)
    (fun c pre W => (c = .ret ∧ ∃ ini last R' d', pre = ini ++ [last] ∧ (∀ p ∈ ini, p.2.x.review = true) ∧ last.2.x.review = false ∧ TbW w W xs hs t r last.2 R' d') ∧ Below w.heap.size w W)
    (OwnFrom.and (ownFrom_pure _ (fun pre : List (Nat × Rc) => ∀ p ∈ pre, p.2.x.review = true)) (ownFrom_below (Nat.le_refl _) (Nat.le_refl _)))
    (fun c => OwnFrom.and (Own.from (fun s A B row hq hg hr => by obtain ⟨hc, ini, last, R', d', e1, e2, e3, e4⟩ := hq; exact ⟨hc, ini, last, R', d', e1, e2, e3, cell_kept e4.c8 hg hr, cell_kept e4.c9 hg hr, owned_kept e4.own (by decide) hg hr⟩) _) (ownFrom_below (Nat.le_refl _) (by omega)))
    ⟨fun p hp => absurd hp (by simp), Below.refl _ _⟩
    (fun x a' W => ∃ Bx, W3.heap.size ≤ Bx ∧ (W.cell? ⟨Bx, 2, none⟩ = some (.int .i64 x.2.x.item) ∧ W.cell? ⟨Bx, 3, none⟩ = some (.int .i64 x.2.x.name) ∧ W.cell? ⟨Bx, 5, none⟩ = some (.bool x.2.x.review) ∧ W.cell? ⟨Bx, 6, none⟩ = some (.int .i64 x.2.before)) ∧ a' = { tmps := #[.slice P xs.length c, .slice A hs.length ch, .int .i64 t, .int .i64 r, .pointer (some ⟨w.heap.size, 0, none⟩), .pointer (some ⟨w.heap.size + 1, 0, none⟩), .pointer (some ⟨w.heap.size + 1 + 1, 0, none⟩), .pointer (some ⟨w.heap.size + 1 + 1 + 1, 0, none⟩), .pointer (some ⟨w.heap.size + 1 + 1 + 1 + 1, 0, none⟩), .pointer (some ⟨w.heap.size + 1 + 1 + 1 + 1 + 1, 0, none⟩), .slice R rs.length d, .bool okb, undef, .pointer (some ⟨Bx, 0, none⟩), .tuple #[.slice R rs.length d, .bool okb], .slice P xs.length c, .slice A hs.length ch, .tuple #[.slice R rs.length d, .bool okb], .slice R rs.length d, .bool okb, .slice R rs.length d, .func (.func 89) #[] #[.pointer (some ⟨w2.heap.size, 0, none⟩)], .int .i64 (x.1 : Int), x.2.val, undef, undef, undef, undef, undef, undef, undef, undef, undef, undef, undef, undef, undef, undef, undef, undef, undef, undef, undef, undef], defers := [] })
    (fun x a' _ A B row hq hg hr => by obtain ⟨Bx, h1, ⟨h2, h3, h4, h5⟩, h6⟩ := hq; exact ⟨Bx, h1, ⟨cell_kept h2 hg (fun q e => (hr q e).2), cell_kept h3 hg (fun q e => (hr q e).2), cell_kept h4 hg (fun q e => (hr q e).2), cell_kept h5 hg (fun q e => (hr q e).2)⟩, h6⟩)
    ?assign ?body ?done ?stop
  case assign =>
    rintro l pre x W K ⟨hp, hBW⟩ hK
    gi_wp2
    exact hK _ _ ((KeepsOthers.alloc _ _).from _) ((Below.refl _ W).alloc hBW.size _) ⟨hp, hBW.alloc hBW.size _⟩ ⟨W.heap.size, hBW.size, ⟨by simp, by simp, by simp, by simp⟩, rfl⟩
  case body =>
    rintro l pre x a' W hl ⟨rec, hrec⟩ ⟨hp, hBW⟩ ⟨Bx, hBx, ⟨c2, c3, c5, c6⟩, rfl⟩ hlt
    rcases hrv : x.2.x.review with _ | _
    · rw [hrv] at c5
      have k0 := (hBW.cell (p := ⟨w.heap.size, 0, none⟩) (by show w.heap.size < _; omega)).trans g0
      have k1 := (hBW.cell (p := ⟨w.heap.size + 1, 0, none⟩) (by show w.heap.size + 1 < _; omega)).trans g1
      have k2 := (hBW.cell (p := ⟨w.heap.size + 1 + 1, 0, none⟩) (by show w.heap.size + 1 + 1 < _; omega)).trans g2
      have k3 := (hBW.cell (p := ⟨w.heap.size + 1 + 1 + 1, 0, none⟩) (by show w.heap.size + 1 + 1 + 1 < _; omega)).trans g3
      have hBwW := hB.trans (hBW.mono hB.size)
      have hadd : Calls Try.prog 33 #[.slice P xs.length c, .slice A hs.length ch, .agg #[.int .i64 t, .int .i64 r, .int .i64 x.2.x.item, .int .i64 x.2.x.name, .int .i64 x.2.before, .bool false]] W (CgAns W (adF xs hs (tbR t r x.2)) (AdOk xs hs (tbR t r x.2))) := iAddChange_a P c xs A ch hs (tbR t r x.2) W (HR.out.next hBwW) HF.out ((HG.out.below hBwW (Nat.le_refl _)).up hBwW.size) hgl
      have HADD := Lib.hid hadd
      have HRV := Lib.hid hrv
      have HBW := Lib.hid hBW
      have HBwW := Lib.hid hBwW
      have HP := Lib.hid hp
      clear hadd hrv hBwW hp
      gi_wp2_with (refine ⟨trivial, ?_⟩; gi_at_call 33; refine (callsIn_wide.2 HADD.out).mono ?_; rintro e w5 ⟨⟨R5, d5, rfl, ho5⟩, hb5⟩; have HO5 := Lib.hid ho5; have HB5 := Lib.hid hb5; have hB5 := HBW.out.trans (hb5.mono HBW.out.size); have cr := (hB5.cell (p := ⟨w.heap.size + 1 + 1 + 1 + 1, 0, none⟩) (by show w.heap.size + 1 + 1 + 1 + 1 < _; omega)).trans g4; have cb := (hB5.cell (p := ⟨w.heap.size + 1 + 1 + 1 + 1 + 1, 0, none⟩) (by show w.heap.size + 1 + 1 + 1 + 1 + 1 < _; omega)).trans g5; have er := (World.frozen?_of_block (w := W3) (a := ⟨w.heap.size + 1 + 1 + 1 + 1, 0, none⟩) (hB5.block (w.heap.size + 1 + 1 + 1 + 1) (by omega))).trans f4; have eb := (World.frozen?_of_block (w := W3) (a := ⟨w.heap.size + 1 + 1 + 1 + 1 + 1, 0, none⟩) (hB5.block (w.heap.size + 1 + 1 + 1 + 1 + 1) (by omega))).trans f5; clear ho5 hb5 hB5)
      refine ⟨(keeps_below HB5.out).trans (((KeepsOthers.setCell _ _ _).trans (KeepsOthers.setCell _ _ _)).from _), ⟨rfl, pre, x, R5, d5, rfl, HP.out, HRV.out, (World.cell?_setCell_other _ _ _ _ (by simp)).trans (World.cell?_setCell_same' _ _ _ (by rw [cr]; rfl)), World.cell?_setCell_same' _ _ _ (by rw [World.cell?_setCell_other _ _ _ _ (by simp), cb]; rfl), ?_⟩, ((HBwW.out.trans (HB5.out.mono HBwW.out.size)).setCell (p := ⟨w.heap.size + 1 + 1 + 1 + 1, 0, none⟩) (by show w.heap.size ≤ w.heap.size + 1 + 1 + 1 + 1; omega) _).setCell (p := ⟨w.heap.size + 1 + 1 + 1 + 1 + 1, 0, none⟩) (by show w.heap.size ≤ w.heap.size + 1 + 1 + 1 + 1 + 1; omega) _⟩
      have hWs := HBW.out.size
      exact (HO5.out.keep (T := fun q => q < w.heap.size + 6) (((Only.refl _ w5).setCell (p := ⟨w.heap.size + 1 + 1 + 1 + 1, 0, none⟩) (by show w.heap.size + 1 + 1 + 1 + 1 < _; omega) _).setCell (p := ⟨w.heap.size + 1 + 1 + 1 + 1 + 1, 0, none⟩) (by show w.heap.size + 1 + 1 + 1 + 1 + 1 < _; omega) _) (fun q hq => by have := hq.1; omega)).mono (fun q hq => by have := hq.1; omega)
    · rw [hrv] at c5
      have HM := Lib.hid (show ∀ p ∈ pre ++ [x], p.2.x.review = true from fun p hp' => (List.mem_append.1 hp').elim (hp p) (fun e => by
        obtain rfl : p = x := by simpa using e
        exact hrv))
      clear hrv
      gi_wp2
      exact ⟨KeepsFrom.refl _ _, Below.refl _ _, HM.out, hBW⟩
  case done =>
    rintro D ys W hD rfl ⟨hp, hBW⟩ hK
    have HV := Lib.hid (show tbF xs hs t r = [] ∧ ¬ TbOk xs hs t r from by
      by_cases hok : HiOk xs hs
      · have hrs := HYN.out.1 hok
        have hl : rs.length = hs.length := by rw [hrs, rcTo_len]
        have h0 := backR_all (hs := hs) hl (fun j hj => by rw [hrs, rcTo_it xs hs _ _ hj]; rfl) hp
        exact ⟨tbF_none (tbX_none t r h0), tbOk_none (tbX_none t r h0)⟩
      · exact tbF_no t r hok)
    have HKD := Lib.hid hK
    have HBW := Lib.hid hBW
    have cr := (hBW.cell (p := ⟨w.heap.size + 1 + 1 + 1 + 1, 0, none⟩) (by show w.heap.size + 1 + 1 + 1 + 1 < _; omega)).trans g4
    have cb := (hBW.cell (p := ⟨w.heap.size + 1 + 1 + 1 + 1 + 1, 0, none⟩) (by show w.heap.size + 1 + 1 + 1 + 1 + 1 < _; omega)).trans g5
    have er := (World.frozen?_of_block (w := W3) (a := ⟨w.heap.size + 1 + 1 + 1 + 1, 0, none⟩) (hBW.block (w.heap.size + 1 + 1 + 1 + 1) (by omega))).trans f4
    have eb := (World.frozen?_of_block (w := W3) (a := ⟨w.heap.size + 1 + 1 + 1 + 1 + 1, 0, none⟩) (hBW.block (w.heap.size + 1 + 1 + 1 + 1 + 1) (by omega))).trans f5
    clear hK hp
    gi_wp2
    have hKf := ((KeepsOthers.setCell W ⟨w.heap.size + 1 + 1 + 1 + 1, 0, none⟩ (.slice none 0 0)).trans (KeepsOthers.setCell _ ⟨w.heap.size + 1 + 1 + 1 + 1 + 1, 0, none⟩ (.bool false))).same D _ HKD.out rfl
    have c5 : ((W.setCell ⟨w.heap.size + 1 + 1 + 1 + 1, 0, none⟩ (.slice none 0 0)).setCell ⟨w.heap.size + 1 + 1 + 1 + 1 + 1, 0, none⟩ (.bool false)).cell? ⟨w.heap.size + 1 + 1 + 1 + 1, 0, none⟩ = some (.slice none 0 0) := (World.cell?_setCell_other _ _ _ _ (by simp)).trans (World.cell?_setCell_same' _ _ _ (by rw [cr]; rfl))
    have c6 : ((W.setCell ⟨w.heap.size + 1 + 1 + 1 + 1, 0, none⟩ (.slice none 0 0)).setCell ⟨w.heap.size + 1 + 1 + 1 + 1 + 1, 0, none⟩ (.bool false)).cell? ⟨w.heap.size + 1 + 1 + 1 + 1 + 1, 0, none⟩ = some (.bool false) := World.cell?_setCell_same' _ _ _ (by rw [World.cell?_setCell_other _ _ _ _ (by simp), cb]; rfl)
    have hb5 : Below w.heap.size w ((W.setCell ⟨w.heap.size + 1 + 1 + 1 + 1, 0, none⟩ (.slice none 0 0)).setCell ⟨w.heap.size + 1 + 1 + 1 + 1 + 1, 0, none⟩ (.bool false)) := ((hB.trans (HBW.out.mono hB.size)).setCell (p := ⟨w.heap.size + 1 + 1 + 1 + 1, 0, none⟩) (by show w.heap.size ≤ w.heap.size + 1 + 1 + 1 + 1; omega) _).setCell (p := ⟨w.heap.size + 1 + 1 + 1 + 1 + 1, 0, none⟩) (by show w.heap.size ≤ w.heap.size + 1 + 1 + 1 + 1 + 1; omega) _
    refine ⟨by simp, .inl ⟨_, _, rfl, run_takeDeferred hKf, ?_⟩⟩
    have hc5 := cell_kept c5 (grownBy_putObj' _ D (.deferred none)) (fun r e => by cases e; exact ⟨_, hKf, rfl⟩)
    have hc6 := cell_kept c6 (grownBy_putObj' _ D (.deferred none)) (fun r e => by cases e; exact ⟨_, hKf, rfl⟩)
    refine ⟨.tuple #[.slice none 0 0, .bool false], ?_, cgAns_no HV.out.2 HV.out.1 (hb5.trans (belowK_b (w := w) (Nat.le_refl _) _ D _ _ (by omega) hKf rfl rfl))⟩
    simp [results, Try.f43, go_sem, hc5, hc6]
  case stop =>
    rintro D c pre W hD ⟨k, hk, rfl⟩ ⟨⟨rfl, ini, last, R', d', e1, e2, e3, e4⟩, hBw⟩ hK
    gi_wp2
    refine ⟨by simp, .inl ⟨_, _, rfl, run_takeDeferred hK, ?_⟩⟩
    have hc5 := cell_kept e4.c8 (grownBy_putObj' _ D (.deferred none)) (fun r e => by cases e; exact ⟨_, hK, rfl⟩)
    have hc6 := cell_kept e4.c9 (grownBy_putObj' _ D (.deferred none)) (fun r e => by cases e; exact ⟨_, hK, rfl⟩)
    have hoo := owned_in (owned_kept e4.own (by decide) (grownBy_putObj' _ D (.deferred none)) (fun r e => by cases e; exact ⟨_, hK, rfl⟩))
    obtain ⟨k', rfl⟩ : ∃ k', k = k' + 1 := by
      cases k with
      | zero => simp [upto] at e1
      | succ k' => exact ⟨k', rfl⟩
    rw [upto_succ] at e1
    obtain ⟨rfl, e5⟩ := List.append_inj' e1 rfl
    obtain rfl : backRF rs k' = last := by simpa using e5
    have hok : HiOk xs hs := Classical.byContradiction (fun h => by
      rw [HYN.out.2 h] at hk
      simp at hk)
    have hrs := HYN.out.1 hok
    have hl : rs.length = hs.length := by rw [hrs, rcTo_len]
    have hln := backR_hit (hs := hs) hl (fun j hj => by rw [hrs, rcTo_it xs hs _ _ hj]; rfl) (by omega) e2 e3
    have hx := tbX_some (xs := xs) t r hln
    have htb : tbR t r (backRF rs k').2 = tbC xs hs t r (hs.length - 1 - k') := by
      unfold backRF tbR tbC
      rw [hl, hrs, rcTo_it xs hs _ _ (by omega), rcB_eq xs hs _ (by omega)]
    rw [htb] at hc5 hc6 hoo
    refine ⟨.tuple #[.slice R' (adF xs hs (tbC xs hs t r (hs.length - 1 - k'))).length d', .bool (pB (AdOk xs hs (tbC xs hs t r (hs.length - 1 - k'))))], ?_, ⟨⟨R', d', by rw [tbF_some hx, tbOk_some hx], by rw [tbF_some hx]; exact hoo⟩, hBw.trans (belowK_b (w := w) (Nat.le_refl _) W D _ _ (by omega) hK rfl rfl)⟩⟩
    simp [results, Try.f43, go_sem, hc5, hc6]
theorem iTakeBack_any (P : Option Addr) (c : Nat) (xs : List Im) (A : Option Addr) (ch : Nat) (hs : List Cg) (t r : Int) (w : World) (hr : Ims w w.heap.size P xs) (hl : ImsFits xs) (hg : Lst w w.heap.size A hs) (hgl : hs.length ≤ 1048576) (hcap : hs.length ≤ ch ∧ ch ≤ 9223372036854775807) :
    Calls Try.prog 43 #[.slice P xs.length c, .slice A hs.length ch, .int .i64 t, .int .i64 r] w fun e w' => (∃ R d, e = .returned (.tuple #[.slice R (tbF xs hs t r).length d, .bool (pB (TbOk xs hs t r))]) ∧ Owned (fun i => w.heap.size ≤ i ∧ i < w'.heap.size) w' R (tbF xs hs t r)) ∧ Below w.heap.size w w' :=
  (iTakeBack_a P c xs A ch hs t r w hr hl hg hgl hcap).mono fun _ _ h => h
end Go.Proofs.Ythbkfekbpjkhnaa
