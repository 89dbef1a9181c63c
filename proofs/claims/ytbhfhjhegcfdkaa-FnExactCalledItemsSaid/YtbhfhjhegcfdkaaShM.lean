/- The call of a name, in the program: the last review of it, or the majority. -/
import Derived.Test.YtbhfhjhegcfdkaaShK
namespace Go.Proofs.Ytbhfhjhegcfdkaa
open Go.ChangeShapes Go.WideShapes Go.ChangeAt Go.RowKit Go.Lib Go.Proofs Go.Shelf
set_option linter.unusedVariables false
attribute [local go_sem] Oper.semAt_some

def Mt (i j : Nat) (r : Rv) : Prop := r.item = (i : Int) ∧ r.name = (j : Int)
theorem rvTo_hit {rv : List Rv} {i j k : Nat} (h : Mt i j (it rv k)) : rvTo rv i j (k + 1) = some (it rv k).mark := if_pos h
theorem rvTo_miss {rv : List Rv} {i j k : Nat} (h : ¬ Mt i j (it rv k)) : rvTo rv i j (k + 1) = rvTo rv i j k := if_neg h
theorem rvTo_skip {rv : List Rv} {i j a : Nat} : ∀ {b : Nat}, a ≤ b → (∀ p, a ≤ p → p < b → ¬ Mt i j (it rv p)) → rvTo rv i j b = rvTo rv i j a
  | 0, h, _ => by
    obtain rfl : a = 0 := by omega
    rfl
  | b + 1, h, hp => by
    rcases Nat.lt_or_ge b a with g | g
    · obtain rfl : a = b + 1 := by omega
      rfl
    · rw [rvTo_miss (hp b g (by omega)), rvTo_skip g (fun p h1 h2 => hp p h1 (by omega))]
/-- The answer with a call, or with none. -/
def ansC (c : Int) : Value := .tuple #[.int .i64 (if c < 0 then 0 else c), .bool (decide (0 ≤ c))]
theorem majV_ans (v : Nat → Int) : majV v = ansC (majTo v 4) := rfl
theorem ansC_yes {c : Int} (h : 0 ≤ c) : ansC c = .tuple #[.int .i64 c, .bool true] := by
  unfold ansC
  rw [if_neg (by omega), decide_eq_true h]
theorem caI_none {x : Sh} {i j : Nat} (h : rvTo x.rv i j x.rv.length = none) : caI x i j = majTo (fun k => vt x.V k i j) 4 := by
  unfold caI
  rw [h]
theorem caI_some {x : Sh} {i j : Nat} {m : Int} (h : rvTo x.rv i j x.rv.length = some m) : caI x i j = m := by
  unfold caI
  rw [h]
/-- All reviews have gone by, the last one first, and none was of the name. -/
theorem back_all {rv : List Rv} {i j : Nat} (h : ∀ p ∈ upto (backF rv) rv.length, ¬ Mt i j p.2) : rvTo rv i j rv.length = none := by
  rw [rvTo_skip (a := 0) (Nat.zero_le _) (fun p _ hp => ?_)]
  · rfl
  · have h1 := h (backF rv (rv.length - 1 - p)) (by simp only [upto, List.mem_map, List.mem_range]; exact ⟨_, by omega, rfl⟩)
    unfold backF at h1
    rwa [show rv.length - 1 - (rv.length - 1 - p) = p by omega] at h1
/-- The first one that comes. -/
theorem back_hit {rv : List Rv} {i j k : Nat} (hk : k < rv.length) (h : ∀ p ∈ upto (backF rv) k, ¬ Mt i j p.2) (hm : Mt i j (backF rv k).2) : rvTo rv i j rv.length = some (backF rv k).2.mark := by
  have h2 : rvTo rv i j rv.length = rvTo rv i j (rv.length - 1 - k + 1) := rvTo_skip (by omega) (fun p h1 hp => by
    have h3 := h (backF rv (rv.length - 1 - p)) (by simp only [upto, List.mem_map, List.mem_range]; exact ⟨_, by omega, rfl⟩)
    unfold backF at h3
    rwa [show rv.length - 1 - (rv.length - 1 - p) = p by omega] at h3)
  rw [h2]
  exact rvTo_hit hm

theorem alloc_old (w : World) (o : Obj) (p : Addr) (h : p.block < w.heap.size) : (w.alloc o).cell? p = w.cell? p := (below_alloc w o).cell h
theorem alloc_oldF (w : World) (o : Obj) (p : Addr) (h : p.block < w.heap.size) : (w.alloc o).frozen? p = w.frozen? p := World.frozen?_of_block ((below_alloc w o).block _ h)
theorem new_one (w : World) (b : Nat) (v : Value) (t : TypeId) (hb : w.heap.size = b) : (w.alloc (.cells #[v] t)).cell? ⟨b, 0, none⟩ = some v ∧ (w.alloc (.cells #[v] t)).frozen? ⟨b, 0, none⟩ = false := by
  subst hb
  constructor <;> simp
set_option maxRecDepth 100000 in
set_option maxHeartbeats 8000000 in
theorem callIn_any (x : Sh) (i j : Nat) (w : World) (hr : ShIn w w.heap.size x) (hl : ShFits x) (hok : ShOk x) (hi : i < x.l.length) (hj : j < (it x.l i).ns.length) :
    Calls Try.prog 24 #[x.val, .int .i64 i, .int .i64 j] w fun e w' => e = .returned (ansC (caI x i j)) ∧ Below w.heap.size w w' := by
  have HR := Lib.hid hr
  have HF := Lib.hid hl
  have HK := Lib.hid hok
  have HS := Lib.hid (⟨hok.vo, hi, hj⟩ : Spot x i j)
  have hrl := hl.re
  clear hr hl hok
  refine (callsIn_wide (n := 3)).1 ?_
  refine callsIn_of_wp_marks Try.func24 rfl trivial ?_ rfl
  unfold Sh.val
  simp only [Try.ntmps24, List.size_toArray, List.length_cons, List.length_nil, Nat.reduceAdd, Nat.reduceSub, Array.replicate_succ, Array.replicate_zero, List.push_toArray, List.append_toArray, List.nil_append, List.cons_append]
  gi_wp2_with (refine ⟨trivial, ?_⟩; gi_at_call 49; refine (back_in Fence.wide (3 - 1) trivial rfl _ _ _ _).mono ?_; rintro e w' ⟨rfl, rfl⟩)
  generalize hW : World.alloc (World.alloc (World.alloc (World.alloc (World.alloc (World.alloc w _) _) _) _) _) _ = W0
  have hB : Below w.heap.size w W0 := by
    rw [← hW]
    go_grown
  have hS : W0.heap.size = w.heap.size + 6 := by rw [← hW]; simp
  have g0 : W0.cell? ⟨w.heap.size, 0, none⟩ = some (.slice x.P x.l.length x.c) := by
    rw [← hW, alloc_old _ _ _ (by simp <;> omega), alloc_old _ _ _ (by simp <;> omega), alloc_old _ _ _ (by simp <;> omega), alloc_old _ _ _ (by simp <;> omega), alloc_old _ _ _ (by simp <;> omega)]
    exact (imMem_new w _ _ rfl _ _ _).c0
  have g1 : W0.cell? ⟨w.heap.size, 1, none⟩ = some (.slice x.V.A x.V.xs.length x.V.c) := by
    rw [← hW, alloc_old _ _ _ (by simp <;> omega), alloc_old _ _ _ (by simp <;> omega), alloc_old _ _ _ (by simp <;> omega), alloc_old _ _ _ (by simp <;> omega), alloc_old _ _ _ (by simp <;> omega)]
    exact (imMem_new w _ _ rfl _ _ _).c1
  have g2 : W0.cell? ⟨w.heap.size, 2, none⟩ = some (.slice x.R x.rv.length x.e) := by
    rw [← hW, alloc_old _ _ _ (by simp <;> omega), alloc_old _ _ _ (by simp <;> omega), alloc_old _ _ _ (by simp <;> omega), alloc_old _ _ _ (by simp <;> omega), alloc_old _ _ _ (by simp <;> omega)]
    exact (imMem_new w _ _ rfl _ _ _).c2
  have gi : W0.cell? ⟨w.heap.size + 1, 0, none⟩ = some (.int .i64 i) := by
    rw [← hW, alloc_old _ _ _ (by simp <;> omega), alloc_old _ _ _ (by simp <;> omega), alloc_old _ _ _ (by simp <;> omega), alloc_old _ _ _ (by simp <;> omega)]
    exact (new_one _ _ _ _ (by simp)).1
  have gj : W0.cell? ⟨w.heap.size + 1 + 1, 0, none⟩ = some (.int .i64 j) := by
    rw [← hW, alloc_old _ _ _ (by simp <;> omega), alloc_old _ _ _ (by simp <;> omega), alloc_old _ _ _ (by simp <;> omega)]
    exact (new_one _ _ _ _ (by simp)).1
  have gr : W0.cell? ⟨w.heap.size + 1 + 1 + 1, 0, none⟩ = some (.int .i64 0) := by
    rw [← hW, alloc_old _ _ _ (by simp <;> omega), alloc_old _ _ _ (by simp <;> omega)]
    exact (new_one _ _ _ _ (by simp)).1
  have gb : W0.cell? ⟨w.heap.size + 1 + 1 + 1 + 1, 0, none⟩ = some (.bool false) := by
    rw [← hW, alloc_old _ _ _ (by simp <;> omega)]
    exact (new_one _ _ _ _ (by simp)).1
  have gs : W0.cell? ⟨w.heap.size + 1 + 1 + 1 + 1 + 1, 0, none⟩ = some (.slice x.R x.rv.length x.e) := by
    rw [← hW]
    exact (new_one _ _ _ _ (by simp)).1
  have fr : W0.frozen? ⟨w.heap.size + 1 + 1 + 1, 0, none⟩ = false := by
    rw [← hW, alloc_oldF _ _ _ (by simp <;> omega), alloc_oldF _ _ _ (by simp <;> omega)]
    exact (new_one _ _ _ _ (by simp)).2
  have fb : W0.frozen? ⟨w.heap.size + 1 + 1 + 1 + 1, 0, none⟩ = false := by
    rw [← hW, alloc_oldF _ _ _ (by simp <;> omega)]
    exact (new_one _ _ _ _ (by simp)).2
  clear hW
  have hRe := (HR.out.re.below hB (Nat.le_refl _)).up hB.size
  refine wpIn_rangeFunc_ownH (F := Fence.wide) rfl (by omega) (gf := 73) (lb := #[.pointer (some ⟨w.heap.size + 1 + 1 + 1 + 1 + 1, 0, none⟩)]) rfl trivial (enters_of Try.func73 (by kernel_rfl) rfl)
    (back_stops Fence.wide (3 - 1) trivial rfl (by omega) (w.heap.size + 1 + 1 + 1 + 1 + 1) W0.heap.size x.e x.R x.rv hrl W0 (by omega) (Nat.le_refl _) gs hRe) belowK_t (belowK_b (Nat.le_refl _)) (Below.refl _ _) (fun _ => rfl)
    (fun pre W => (∀ p ∈ pre, ¬ Mt i j p.2) ∧ Below W0.heap.size W0 W)
    (fun c pre W => (c = .ret ∧ ∃ ini last, pre = ini ++ [last] ∧ (∀ p ∈ ini, ¬ Mt i j p.2) ∧ Mt i j last.2 ∧ W.cell? ⟨w.heap.size + 1 + 1 + 1, 0, none⟩ = some (.int .i64 last.2.mark) ∧ W.cell? ⟨w.heap.size + 1 + 1 + 1 + 1, 0, none⟩ = some (.bool true)) ∧ Below w.heap.size w W)
    (OwnFrom.and (ownFrom_pure _ (fun pre : List (Nat × Rv) => ∀ p ∈ pre, ¬ Mt i j p.2)) (ownFrom_below (Nat.le_refl _) (Nat.le_refl _)))
    (fun c => OwnFrom.and (Own.from (fun s A B row hs hg hr => by obtain ⟨hc, ini, last, e1, e2, e3, e4, e5⟩ := hs; exact ⟨hc, ini, last, e1, e2, e3, cell_kept e4 hg hr, cell_kept e5 hg hr⟩) _) (ownFrom_below (Nat.le_refl _) (by omega)))
    ⟨fun p hp => absurd hp (by simp), Below.refl _ _⟩
    (fun r a' W => ∃ Bx, W0.heap.size ≤ Bx ∧ (W.cell? ⟨Bx, 0, none⟩ = some (.int .i64 r.2.item) ∧ W.cell? ⟨Bx, 1, none⟩ = some (.int .i64 r.2.name) ∧ W.cell? ⟨Bx, 2, none⟩ = some (.int .i64 r.2.mark)) ∧ a' = { tmps := #[.agg #[.slice x.P x.l.length x.c, .slice x.V.A x.V.xs.length x.V.c, .slice x.R x.rv.length x.e], .int .i64 i, .int .i64 j, .pointer (some ⟨w.heap.size, 0, none⟩), .pointer (some ⟨w.heap.size + 1, 0, none⟩), .pointer (some ⟨w.heap.size + 1 + 1, 0, none⟩), .pointer (some ⟨w.heap.size + 1 + 1 + 1, 0, none⟩), .pointer (some ⟨w.heap.size + 1 + 1 + 1 + 1, 0, none⟩), undef, .pointer (some ⟨Bx, 0, none⟩), .pointer (some ⟨w.heap.size, 2, none⟩), .slice x.R x.rv.length x.e, .func (.func 73) #[] #[.pointer (some ⟨w.heap.size + 1 + 1 + 1 + 1 + 1, 0, none⟩)], .int .i64 (r.1 : Int), .agg #[.int .i64 r.2.item, .int .i64 r.2.name, .int .i64 r.2.mark], undef, undef, undef, undef, undef, undef, undef, undef, undef, undef, undef, undef, undef, undef, undef, undef, undef, undef, undef], defers := [] })
    (fun r a' _ A B row hs hg hr => by obtain ⟨Bx, h1, ⟨h2, h3, h4⟩, h5⟩ := hs; exact ⟨Bx, h1, ⟨cell_kept h2 hg (fun q e => (hr q e).2), cell_kept h3 hg (fun q e => (hr q e).2), cell_kept h4 hg (fun q e => (hr q e).2)⟩, h5⟩)
    ?assign ?body ?done ?stop
  case assign =>
    rintro l pre r W K ⟨hp, hBW⟩ hK
    gi_wp2
    exact hK _ _ ((KeepsOthers.alloc _ _).from _) ((Below.refl _ W).alloc hBW.size _) ⟨hp, hBW.alloc hBW.size _⟩ ⟨W.heap.size, hBW.size, ⟨by simp, by simp, by simp⟩, rfl⟩
  case body =>
    rintro l pre r a' W hl ⟨rec, hrec⟩ ⟨hp, hBW⟩ ⟨Bx, hBx, ⟨c0, c1, c2⟩, rfl⟩ hlt
    have ci := (hBW.cell (p := ⟨w.heap.size + 1, 0, none⟩) (by show w.heap.size + 1 < _; omega)).trans gi
    have cj := (hBW.cell (p := ⟨w.heap.size + 1 + 1, 0, none⟩) (by show w.heap.size + 1 + 1 < _; omega)).trans gj
    have cr := (hBW.cell (p := ⟨w.heap.size + 1 + 1 + 1, 0, none⟩) (by show w.heap.size + 1 + 1 + 1 < _; omega)).trans gr
    have cb := (hBW.cell (p := ⟨w.heap.size + 1 + 1 + 1 + 1, 0, none⟩) (by show w.heap.size + 1 + 1 + 1 + 1 < _; omega)).trans gb
    have er := (World.frozen?_of_block (w := W0) (a := ⟨w.heap.size + 1 + 1 + 1, 0, none⟩) (hBW.block (w.heap.size + 1 + 1 + 1) (by omega))).trans fr
    have eb := (World.frozen?_of_block (w := W0) (a := ⟨w.heap.size + 1 + 1 + 1 + 1, 0, none⟩) (hBW.block (w.heap.size + 1 + 1 + 1 + 1) (by omega))).trans fb
    have hcont : ¬ Mt i j r.2 → ∀ p ∈ pre ++ [r], ¬ Mt i j p.2 := fun h p hp' => (List.mem_append.1 hp').elim (hp p) (fun e => by
      obtain rfl : p = r := by simpa using e
      exact h)
    by_cases hm1 : r.2.item = (i : Int)
    · by_cases hm2 : r.2.name = (j : Int)
      · have HM := Lib.hid (show Mt i j r.2 from ⟨hm1, hm2⟩)
        rw [hm1] at c0
        rw [hm2] at c1
        clear hm1 hm2 hcont
        gi_wp2
        exact ⟨((KeepsOthers.setCell _ _ _).trans (KeepsOthers.setCell _ _ _)).from _, ⟨rfl, pre, r, rfl, hp, HM.out, (World.cell?_setCell_other _ _ _ _ (by simp)).trans (World.cell?_setCell_same' _ _ _ (by rw [cr]; rfl)), World.cell?_setCell_same' _ _ _ (by rw [World.cell?_setCell_other _ _ _ _ (by simp), cb]; rfl)⟩, ((hB.trans (hBW.mono hB.size)).setCell (p := ⟨w.heap.size + 1 + 1 + 1, 0, none⟩) (by show w.heap.size ≤ w.heap.size + 1 + 1 + 1; omega) _).setCell (p := ⟨w.heap.size + 1 + 1 + 1 + 1, 0, none⟩) (by show w.heap.size ≤ w.heap.size + 1 + 1 + 1 + 1; omega) _⟩
      · have HM := Lib.hid (hcont (fun h => hm2 h.2))
        have hd : (r.2.name == (j : Int)) = false := by simpa using hm2
        rw [hm1] at c0
        clear hm1 hm2 hcont
        gi_wp2
        exact ⟨KeepsFrom.refl _ _, Below.refl _ _, HM.out, hBW⟩
    · have HM := Lib.hid (hcont (fun h => hm1 h.1))
      have hd : (r.2.item == (i : Int)) = false := by simpa using hm1
      clear hm1 hcont
      gi_wp2
      exact ⟨KeepsFrom.refl _ _, Below.refl _ _, HM.out, hBW⟩
  case done =>
    rintro D ys W hD rfl ⟨hp, hBW⟩ hK
    have HC := Lib.hid (caI_none (x := x) (back_all hp))
    have y0 := (hBW.cell (p := ⟨w.heap.size, 0, none⟩) (by show w.heap.size < _; omega)).trans g0
    have y1 := (hBW.cell (p := ⟨w.heap.size, 1, none⟩) (by show w.heap.size < _; omega)).trans g1
    have y2 := (hBW.cell (p := ⟨w.heap.size, 2, none⟩) (by show w.heap.size < _; omega)).trans g2
    have ci := (hBW.cell (p := ⟨w.heap.size + 1, 0, none⟩) (by show w.heap.size + 1 < _; omega)).trans gi
    have cj := (hBW.cell (p := ⟨w.heap.size + 1 + 1, 0, none⟩) (by show w.heap.size + 1 + 1 < _; omega)).trans gj
    have HRW := Lib.hid (HR.out.next (hB.trans (hBW.mono hB.size)))
    have HKD := Lib.hid hK
    have HDL := Lib.hid (Array.getElem?_eq_some_iff.1 hK).1
    have HBW := Lib.hid hBW
    obtain ⟨a, b, hab⟩ : ∃ (a : Int) (b : Bool), majV (fun k => vt x.V k i j) = .tuple #[.int .i64 a, .bool b] := ⟨_, _, rfl⟩
    have HAB := Lib.hid hab
    clear hK hp hab
    gi_wp2_with (first
      | (refine ⟨trivial, ?_⟩; gi_at_call 51; refine (callsIn_wide.2 (votesFor_any x i j _ HRW.out HF.out HS.out)).mono ?_; rintro e w2 ⟨rfl, hb2⟩; have HB2 := Lib.hid hb2; clear hb2)
      | (refine ⟨trivial, ?_⟩; gi_at_call 50; refine (callsIn_wide.2 (majorityOf_any _ _ _ (fun k => vt x.V k i j) _ rfl rfl rfl)).mono ?_; rintro e w3 ⟨rfl, hb3⟩; have hB3 := HBW.out.trans ((below_next HB2.out hb3).mono HBW.out.size); have cr := (hB3.cell (p := ⟨w.heap.size + 1 + 1 + 1, 0, none⟩) (by show w.heap.size + 1 + 1 + 1 < _; omega)).trans gr; have cb := (hB3.cell (p := ⟨w.heap.size + 1 + 1 + 1 + 1, 0, none⟩) (by show w.heap.size + 1 + 1 + 1 + 1 < _; omega)).trans gb; have er := (World.frozen?_of_block (w := W0) (a := ⟨w.heap.size + 1 + 1 + 1, 0, none⟩) (hB3.block (w.heap.size + 1 + 1 + 1) (by omega))).trans fr; have eb := (World.frozen?_of_block (w := W0) (a := ⟨w.heap.size + 1 + 1 + 1 + 1, 0, none⟩) (hB3.block (w.heap.size + 1 + 1 + 1 + 1) (by omega))).trans fb; have HB3 := Lib.hid hB3; have HK3 := Lib.hid (((below_next HB2.out hb3).block D HDL.out).trans HKD.out); clear hb3 hB3; rw [HAB.out]))
    have hKf := ((KeepsOthers.setCell w3 ⟨w.heap.size + 1 + 1 + 1, 0, none⟩ (.int .i64 a)).trans (KeepsOthers.setCell _ ⟨w.heap.size + 1 + 1 + 1 + 1, 0, none⟩ (.bool b))).same D _ HK3.out rfl
    have c5 : ((w3.setCell ⟨w.heap.size + 1 + 1 + 1, 0, none⟩ (.int .i64 a)).setCell ⟨w.heap.size + 1 + 1 + 1 + 1, 0, none⟩ (.bool b)).cell? ⟨w.heap.size + 1 + 1 + 1, 0, none⟩ = some (.int .i64 a) := (World.cell?_setCell_other _ _ _ _ (by simp)).trans (World.cell?_setCell_same' _ _ _ (by rw [cr]; rfl))
    have c6 : ((w3.setCell ⟨w.heap.size + 1 + 1 + 1, 0, none⟩ (.int .i64 a)).setCell ⟨w.heap.size + 1 + 1 + 1 + 1, 0, none⟩ (.bool b)).cell? ⟨w.heap.size + 1 + 1 + 1 + 1, 0, none⟩ = some (.bool b) := World.cell?_setCell_same' _ _ _ (by rw [World.cell?_setCell_other _ _ _ _ (by simp), cb]; rfl)
    have hb5 : Below w.heap.size w ((w3.setCell ⟨w.heap.size + 1 + 1 + 1, 0, none⟩ (.int .i64 a)).setCell ⟨w.heap.size + 1 + 1 + 1 + 1, 0, none⟩ (.bool b)) := ((hB.trans (HB3.out.mono hB.size)).setCell (p := ⟨w.heap.size + 1 + 1 + 1, 0, none⟩) (by show w.heap.size ≤ w.heap.size + 1 + 1 + 1; omega) _).setCell (p := ⟨w.heap.size + 1 + 1 + 1 + 1, 0, none⟩) (by show w.heap.size ≤ w.heap.size + 1 + 1 + 1 + 1; omega) _
    refine ⟨by simp, .inl ⟨_, _, rfl, run_takeDeferred hKf, ?_⟩⟩
    have hc5 := cell_kept c5 (grownBy_putObj' _ D (.deferred none)) (fun r e => by cases e; exact ⟨_, hKf, rfl⟩)
    have hc6 := cell_kept c6 (grownBy_putObj' _ D (.deferred none)) (fun r e => by cases e; exact ⟨_, hKf, rfl⟩)
    refine ⟨ansC (caI x i j), ?_, rfl, hb5.trans (belowK_b (w := w) (Nat.le_refl _) _ D _ _ (by omega) hKf rfl rfl)⟩
    rw [HC.out, ← majV_ans, HAB.out]
    simp [results, Try.f24, go_sem, hc5, hc6]
  case stop =>
    rintro D c pre W hD ⟨k, hk, rfl⟩ ⟨⟨rfl, ini, last, e1, e2, e3, hcr, hcb⟩, hBw⟩ hK
    gi_wp2
    refine ⟨by simp, .inl ⟨_, _, rfl, run_takeDeferred hK, ?_⟩⟩
    have hc5 := cell_kept hcr (grownBy_putObj' _ D (.deferred none)) (fun r e => by cases e; exact ⟨_, hK, rfl⟩)
    have hc6 := cell_kept hcb (grownBy_putObj' _ D (.deferred none)) (fun r e => by cases e; exact ⟨_, hK, rfl⟩)
    obtain ⟨k', rfl⟩ : ∃ k', k = k' + 1 := by
      cases k with
      | zero => simp [upto] at e1
      | succ k' => exact ⟨k', rfl⟩
    rw [upto_succ] at e1
    obtain ⟨rfl, e5⟩ := List.append_inj' e1 rfl
    obtain rfl : backF x.rv k' = last := by simpa using e5
    have hc := caI_some (back_hit (by omega) e2 e3)
    have hmk := (HK.out.re.each (x.rv.length - 1 - k') (by omega)).mark.1
    refine ⟨ansC (caI x i j), ?_, rfl, hBw.trans (belowK_b (w := w) (Nat.le_refl _) W D _ _ (by omega) hK rfl rfl)⟩
    rw [hc, ansC_yes (show 0 ≤ (backF x.rv k').2.mark from hmk)]
    simp [results, Try.f24, go_sem, hc5, hc6]
end Go.Proofs.Ytbhfhjhegcfdkaa
