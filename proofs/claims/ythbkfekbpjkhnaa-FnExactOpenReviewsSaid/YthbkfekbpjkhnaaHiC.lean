/- The last change of a name, in the program: a range over slices.Backward. -/
import Derived.Test.YthbkfekbpjkhnaaHiB
import Derived.ChangeKeysEq
namespace Go.Proofs.Ythbkfekbpjkhnaa
open Go.ChangeShapes Go.WideShapes Go.ChangeAt Go.RowKit Go.Lib Go.Proofs Go.Shelf
set_option linter.unusedVariables false
attribute [local go_sem] Oper.semAt_some

def Mc (i n : Int) (x : Cg) : Prop := x.item = i ∧ x.name = n
/-- The answer: the place, if there is one. -/
def laA : Nat → Value
  | 0 => .tuple #[.int .i64 0, .bool false]
  | p + 1 => .tuple #[.int .i64 (p : Int), .bool true]
/-- All changes have gone by, the last one first, and none was of the name. -/
theorem back_all {hs : List Cg} {i n : Int} (h : ∀ p ∈ upto (backF hs) hs.length, ¬ Mc i n p.2) : laK hs i n hs.length = 0 := by
  rw [laK_skip (m := 0) (Nat.zero_le _) (fun p _ hp => ?_)]
  · rfl
  · have h1 := h (backF hs (hs.length - 1 - p)) (by simp only [upto, List.mem_map, List.mem_range]; exact ⟨_, by omega, rfl⟩)
    unfold backF at h1
    rwa [show hs.length - 1 - (hs.length - 1 - p) = p by omega] at h1
/-- The first one that comes. -/
theorem back_hit {hs : List Cg} {i n : Int} {k : Nat} (hk : k < hs.length) (h : ∀ p ∈ upto (backF hs) k, ¬ Mc i n p.2) (hm : Mc i n (backF hs k).2) : laK hs i n hs.length = hs.length - 1 - k + 1 := by
  have h2 : laK hs i n hs.length = laK hs i n (hs.length - 1 - k + 1) := laK_skip (by omega) (fun p h1 hp => by
    have h3 := h (backF hs (hs.length - 1 - p)) (by simp only [upto, List.mem_map, List.mem_range]; exact ⟨_, by omega, rfl⟩)
    unfold backF at h3
    rwa [show hs.length - 1 - (hs.length - 1 - p) = p by omega] at h3)
  rw [h2]
  exact laK_hit hm.1 hm.2
theorem alloc_old (w : World) (o : Obj) (p : Addr) (h : p.block < w.heap.size) : (w.alloc o).cell? p = w.cell? p := (below_alloc w o).cell h
theorem alloc_oldF (w : World) (o : Obj) (p : Addr) (h : p.block < w.heap.size) : (w.alloc o).frozen? p = w.frozen? p := World.frozen?_of_block ((below_alloc w o).block _ h)
theorem new_one (w : World) (b : Nat) (v : Value) (t : TypeId) (hb : w.heap.size = b) : (w.alloc (.cells #[v] t)).cell? ⟨b, 0, none⟩ = some v ∧ (w.alloc (.cells #[v] t)).frozen? ⟨b, 0, none⟩ = false := by
  subst hb
  constructor <;> simp
set_option maxRecDepth 100000 in
set_option maxHeartbeats 8000000 in
theorem lastOfName_any (A : Option Addr) (c : Nat) (hs : List Cg) (i n : Int) (w : World) (hr : Lst w w.heap.size A hs) (hl : hs.length ≤ 1048576) :
    Calls Try.prog 61 #[.slice A hs.length c, .int .i64 i, .int .i64 n] w fun e w' => e = .returned (laA (laK hs i n hs.length)) ∧ Below w.heap.size w w' := by
  have HR := Lib.hid hr
  clear hr
  refine (callsIn_wide (n := 3)).1 ?_
  refine callsIn_of_wp_marks Try.func61 rfl trivial ?_ rfl
  simp only [Try.ntmps61, List.size_toArray, List.length_cons, List.length_nil, Nat.reduceAdd, Nat.reduceSub, Array.replicate_succ, Array.replicate_zero, List.push_toArray, List.append_toArray, List.nil_append, List.cons_append]
  gi_wp2_with (refine ⟨trivial, ?_⟩; gi_at_call 85; refine (back_in Fence.wide (3 - 1) trivial rfl _ _ _ _).mono ?_; rintro e w' ⟨rfl, rfl⟩)
  generalize hW : World.alloc (World.alloc (World.alloc (World.alloc (World.alloc w _) _) _) _) _ = W0
  have hB : Below w.heap.size w W0 := by
    rw [← hW]
    go_grown
  have hS : W0.heap.size = w.heap.size + 5 := by rw [← hW]; simp
  have gi : W0.cell? ⟨w.heap.size, 0, none⟩ = some (.int .i64 i) := by
    rw [← hW, alloc_old _ _ _ (by simp <;> omega), alloc_old _ _ _ (by simp <;> omega), alloc_old _ _ _ (by simp <;> omega), alloc_old _ _ _ (by simp <;> omega)]
    exact (new_one _ _ _ _ (by simp)).1
  have gj : W0.cell? ⟨w.heap.size + 1, 0, none⟩ = some (.int .i64 n) := by
    rw [← hW, alloc_old _ _ _ (by simp <;> omega), alloc_old _ _ _ (by simp <;> omega), alloc_old _ _ _ (by simp <;> omega)]
    exact (new_one _ _ _ _ (by simp)).1
  have gr : W0.cell? ⟨w.heap.size + 1 + 1, 0, none⟩ = some (.int .i64 0) := by
    rw [← hW, alloc_old _ _ _ (by simp <;> omega), alloc_old _ _ _ (by simp <;> omega)]
    exact (new_one _ _ _ _ (by simp)).1
  have gb : W0.cell? ⟨w.heap.size + 1 + 1 + 1, 0, none⟩ = some (.bool false) := by
    rw [← hW, alloc_old _ _ _ (by simp <;> omega)]
    exact (new_one _ _ _ _ (by simp)).1
  have gs : W0.cell? ⟨w.heap.size + 1 + 1 + 1 + 1, 0, none⟩ = some (.slice A hs.length c) := by
    rw [← hW]
    exact (new_one _ _ _ _ (by simp)).1
  have fr : W0.frozen? ⟨w.heap.size + 1 + 1, 0, none⟩ = false := by
    rw [← hW, alloc_oldF _ _ _ (by simp <;> omega), alloc_oldF _ _ _ (by simp <;> omega)]
    exact (new_one _ _ _ _ (by simp)).2
  have fb : W0.frozen? ⟨w.heap.size + 1 + 1 + 1, 0, none⟩ = false := by
    rw [← hW, alloc_oldF _ _ _ (by simp <;> omega)]
    exact (new_one _ _ _ _ (by simp)).2
  clear hW
  have hRe := (HR.out.below hB (Nat.le_refl _)).up hB.size
  refine wpIn_rangeFunc_ownH (F := Fence.wide) rfl (by omega) (gf := 95) (lb := #[.pointer (some ⟨w.heap.size + 1 + 1 + 1 + 1, 0, none⟩)]) rfl trivial (enters_of Try.func95 (by kernel_rfl) rfl)
    (back_stops Fence.wide (3 - 1) trivial rfl (by omega) (w.heap.size + 1 + 1 + 1 + 1) W0.heap.size c A hs hl W0 (by omega) (Nat.le_refl _) gs hRe) belowK_t (belowK_b (Nat.le_refl _)) (Below.refl _ _) (fun _ => rfl)
    (fun pre W => (∀ p ∈ pre, ¬ Mc i n p.2) ∧ Below W0.heap.size W0 W)
    (fun c pre W => (c = .ret ∧ ∃ ini last, pre = ini ++ [last] ∧ (∀ p ∈ ini, ¬ Mc i n p.2) ∧ Mc i n last.2 ∧ W.cell? ⟨w.heap.size + 1 + 1, 0, none⟩ = some (.int .i64 (last.1 : Int)) ∧ W.cell? ⟨w.heap.size + 1 + 1 + 1, 0, none⟩ = some (.bool true)) ∧ Below w.heap.size w W)
    (OwnFrom.and (ownFrom_pure _ (fun pre : List (Nat × Cg) => ∀ p ∈ pre, ¬ Mc i n p.2)) (ownFrom_below (Nat.le_refl _) (Nat.le_refl _)))
    (fun c => OwnFrom.and (Own.from (fun s A B row hs hg hr => by obtain ⟨hc, ini, last, e1, e2, e3, e4, e5⟩ := hs; exact ⟨hc, ini, last, e1, e2, e3, cell_kept e4 hg hr, cell_kept e5 hg hr⟩) _) (ownFrom_below (Nat.le_refl _) (by omega)))
    ⟨fun p hp => absurd hp (by simp), Below.refl _ _⟩
    (fun r a' W => ∃ Bx, W0.heap.size ≤ Bx ∧ (W.cell? ⟨Bx, 2, none⟩ = some (.int .i64 r.2.item) ∧ W.cell? ⟨Bx, 3, none⟩ = some (.int .i64 r.2.name)) ∧ a' = { tmps := #[.slice A hs.length c, .int .i64 i, .int .i64 n, undef, .pointer (some ⟨w.heap.size, 0, none⟩), .pointer (some ⟨w.heap.size + 1, 0, none⟩), .pointer (some ⟨w.heap.size + 1 + 1, 0, none⟩), .pointer (some ⟨w.heap.size + 1 + 1 + 1, 0, none⟩), .int .i64 (r.1 : Int), .pointer (some ⟨Bx, 0, none⟩), .slice A hs.length c, .func (.func 95) #[] #[.pointer (some ⟨w.heap.size + 1 + 1 + 1 + 1, 0, none⟩)], .int .i64 (r.1 : Int), r.2.val, undef, undef, undef, undef, undef, undef, undef, undef, undef, undef, undef], defers := [] })
    (fun r a' _ A B row hs hg hr => by obtain ⟨Bx, h1, ⟨h2, h3⟩, h5⟩ := hs; exact ⟨Bx, h1, ⟨cell_kept h2 hg (fun q e => (hr q e).2), cell_kept h3 hg (fun q e => (hr q e).2)⟩, h5⟩)
    ?assign ?body ?done ?stop
  case assign =>
    rintro l pre r W K ⟨hp, hBW⟩ hK
    gi_wp2
    exact hK _ _ ((KeepsOthers.alloc _ _).from _) ((Below.refl _ W).alloc hBW.size _) ⟨hp, hBW.alloc hBW.size _⟩ ⟨W.heap.size, hBW.size, ⟨by simp, by simp⟩, rfl⟩
  case body =>
    rintro l pre r a' W hl ⟨rec, hrec⟩ ⟨hp, hBW⟩ ⟨Bx, hBx, ⟨c0, c1⟩, rfl⟩ hlt
    have ci := (hBW.cell (p := ⟨w.heap.size, 0, none⟩) (by show w.heap.size < _; omega)).trans gi
    have cj := (hBW.cell (p := ⟨w.heap.size + 1, 0, none⟩) (by show w.heap.size + 1 < _; omega)).trans gj
    have cr := (hBW.cell (p := ⟨w.heap.size + 1 + 1, 0, none⟩) (by show w.heap.size + 1 + 1 < _; omega)).trans gr
    have cb := (hBW.cell (p := ⟨w.heap.size + 1 + 1 + 1, 0, none⟩) (by show w.heap.size + 1 + 1 + 1 < _; omega)).trans gb
    have er := (World.frozen?_of_block (w := W0) (a := ⟨w.heap.size + 1 + 1, 0, none⟩) (hBW.block (w.heap.size + 1 + 1) (by omega))).trans fr
    have eb := (World.frozen?_of_block (w := W0) (a := ⟨w.heap.size + 1 + 1 + 1, 0, none⟩) (hBW.block (w.heap.size + 1 + 1 + 1) (by omega))).trans fb
    have hcont : ¬ Mc i n r.2 → ∀ p ∈ pre ++ [r], ¬ Mc i n p.2 := fun h p hp' => (List.mem_append.1 hp').elim (hp p) (fun e => by
      obtain rfl : p = r := by simpa using e
      exact h)
    by_cases hm1 : r.2.item = i
    · by_cases hm2 : r.2.name = n
      · have HM := Lib.hid (show Mc i n r.2 from ⟨hm1, hm2⟩)
        rw [hm1] at c0
        rw [hm2] at c1
        clear hm1 hm2 hcont
        gi_wp2
        exact ⟨((KeepsOthers.setCell _ _ _).trans (KeepsOthers.setCell _ _ _)).from _, ⟨rfl, pre, r, rfl, hp, HM.out, (World.cell?_setCell_other _ _ _ _ (by simp)).trans (World.cell?_setCell_same' _ _ _ (by rw [cr]; rfl)), World.cell?_setCell_same' _ _ _ (by rw [World.cell?_setCell_other _ _ _ _ (by simp), cb]; rfl)⟩, ((hB.trans (hBW.mono hB.size)).setCell (p := ⟨w.heap.size + 1 + 1, 0, none⟩) (by show w.heap.size ≤ w.heap.size + 1 + 1; omega) _).setCell (p := ⟨w.heap.size + 1 + 1 + 1, 0, none⟩) (by show w.heap.size ≤ w.heap.size + 1 + 1 + 1; omega) _⟩
      · have HM := Lib.hid (hcont (fun h => hm2 h.2))
        have hd : (r.2.name == n) = false := by simpa using hm2
        rw [hm1] at c0
        clear hm1 hm2 hcont
        gi_wp2
        exact ⟨KeepsFrom.refl _ _, Below.refl _ _, HM.out, hBW⟩
    · have HM := Lib.hid (hcont (fun h => hm1 h.1))
      have hd : (r.2.item == i) = false := by simpa using hm1
      clear hm1 hcont
      gi_wp2
      exact ⟨KeepsFrom.refl _ _, Below.refl _ _, HM.out, hBW⟩
  case done =>
    rintro D ys W hD rfl ⟨hp, hBW⟩ hK
    have HC := Lib.hid (back_all hp)
    have HKD := Lib.hid hK
    have HDL := Lib.hid (Array.getElem?_eq_some_iff.1 hK).1
    have HBW := Lib.hid hBW
    have cr := (hBW.cell (p := ⟨w.heap.size + 1 + 1, 0, none⟩) (by show w.heap.size + 1 + 1 < _; omega)).trans gr
    have cb := (hBW.cell (p := ⟨w.heap.size + 1 + 1 + 1, 0, none⟩) (by show w.heap.size + 1 + 1 + 1 < _; omega)).trans gb
    have er := (World.frozen?_of_block (w := W0) (a := ⟨w.heap.size + 1 + 1, 0, none⟩) (hBW.block (w.heap.size + 1 + 1) (by omega))).trans fr
    have eb := (World.frozen?_of_block (w := W0) (a := ⟨w.heap.size + 1 + 1 + 1, 0, none⟩) (hBW.block (w.heap.size + 1 + 1 + 1) (by omega))).trans fb
    clear hK hp
    gi_wp2
    have hKf := ((KeepsOthers.setCell W ⟨w.heap.size + 1 + 1, 0, none⟩ (.int .i64 0)).trans (KeepsOthers.setCell _ ⟨w.heap.size + 1 + 1 + 1, 0, none⟩ (.bool false))).same D _ HKD.out rfl
    have c5 : ((W.setCell ⟨w.heap.size + 1 + 1, 0, none⟩ (.int .i64 0)).setCell ⟨w.heap.size + 1 + 1 + 1, 0, none⟩ (.bool false)).cell? ⟨w.heap.size + 1 + 1, 0, none⟩ = some (.int .i64 0) := (World.cell?_setCell_other _ _ _ _ (by simp)).trans (World.cell?_setCell_same' _ _ _ (by rw [cr]; rfl))
    have c6 : ((W.setCell ⟨w.heap.size + 1 + 1, 0, none⟩ (.int .i64 0)).setCell ⟨w.heap.size + 1 + 1 + 1, 0, none⟩ (.bool false)).cell? ⟨w.heap.size + 1 + 1 + 1, 0, none⟩ = some (.bool false) := World.cell?_setCell_same' _ _ _ (by rw [World.cell?_setCell_other _ _ _ _ (by simp), cb]; rfl)
    have hb5 : Below w.heap.size w ((W.setCell ⟨w.heap.size + 1 + 1, 0, none⟩ (.int .i64 0)).setCell ⟨w.heap.size + 1 + 1 + 1, 0, none⟩ (.bool false)) := ((hB.trans (HBW.out.mono hB.size)).setCell (p := ⟨w.heap.size + 1 + 1, 0, none⟩) (by show w.heap.size ≤ w.heap.size + 1 + 1; omega) _).setCell (p := ⟨w.heap.size + 1 + 1 + 1, 0, none⟩) (by show w.heap.size ≤ w.heap.size + 1 + 1 + 1; omega) _
    refine ⟨by simp, .inl ⟨_, _, rfl, run_takeDeferred hKf, ?_⟩⟩
    have hc5 := cell_kept c5 (grownBy_putObj' _ D (.deferred none)) (fun r e => by cases e; exact ⟨_, hKf, rfl⟩)
    have hc6 := cell_kept c6 (grownBy_putObj' _ D (.deferred none)) (fun r e => by cases e; exact ⟨_, hKf, rfl⟩)
    refine ⟨laA (laK hs i n hs.length), ?_, rfl, hb5.trans (belowK_b (w := w) (Nat.le_refl _) _ D _ _ (by omega) hKf rfl rfl)⟩
    rw [HC.out]
    unfold laA
    simp [results, Try.f61, go_sem, hc5, hc6]
  case stop =>
    rintro D c pre W hD ⟨k, hk, rfl⟩ ⟨⟨rfl, ini, last, e1, e2, e3, hcr, hcb⟩, hBw⟩ hK
    gi_wp2
    refine ⟨by simp, .inl ⟨_, _, rfl, run_takeDeferred hK, ?_⟩⟩
    have hc5 := cell_kept hcr (grownBy_putObj' _ D (.deferred none)) (fun r e => by cases e; exact ⟨_, hK, rfl⟩)
    have hc6 := cell_kept hcb (grownBy_putObj' _ D (.deferred none)) (fun r e => by cases e; exact ⟨_, hK, rfl⟩)
    obtain ⟨k', rfl⟩ : ∃ k', k = k' + 1 := by
      cases k with
      | zero => simp [upto] at e1
      | succ k' => exact ⟨k', rfl⟩
    rw [upto_succ] at e1
    obtain ⟨rfl, e5⟩ := List.append_inj' e1 rfl
    obtain rfl : backF hs k' = last := by simpa using e5
    have hc := back_hit (by omega) e2 e3
    refine ⟨laA (laK hs i n hs.length), ?_, rfl, hBw.trans (belowK_b (w := w) (Nat.le_refl _) W D _ _ (by omega) hK rfl rfl)⟩
    rw [hc]
    unfold laA
    have hc5' : _ = some (Value.int .i64 ((hs.length - 1 - k' : Nat) : Int)) := hc5
    simp [results, Try.f61, go_sem, hc5', hc6]
end Go.Proofs.Ythbkfekbpjkhnaa
