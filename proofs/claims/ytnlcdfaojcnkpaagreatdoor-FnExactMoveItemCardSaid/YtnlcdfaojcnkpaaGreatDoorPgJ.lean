/- A list with one item more, in the model. -/
import Derived.Test.YtnlcdfaojcnkpaaGreatDoorPgI
import Derived.Deep.AppendLies
namespace Go.Proofs.YtnlcdfaojcnkpaaGreatDoor
open Go.ChangeShapes Go.WideShapes Go.ChangeAt Go.RowKit Go.PlainAid
set_option linter.unusedVariables false

theorem heap_at_old (w : World) (o x : Obj) (g : Nat) (h : g < w.heap.size) (k : w.heap[g]? = some x) : (w.alloc o).heap[g]? = some x := (heap_alloc_old w o h).trans k
/-- The list with an item put in. -/
def ins (xs : List Im) (k : Nat) (y : Im) : List Im := xs.take k ++ y :: xs.drop k
theorem ins_len (xs : List Im) (k : Nat) (y : Im) (h : k ≤ xs.length) : (ins xs k y).length = xs.length + 1 := by
  unfold ins
  rw [List.length_append, List.length_cons, List.length_take, List.length_drop]
  omega
theorem it_ins (xs : List Im) (k : Nat) (y : Im) (h : k ≤ xs.length) (i : Nat) : it (ins xs k y) i = if i < k then it xs i else if i = k then y else it xs (i - 1) := by
  unfold ins it
  have hl : (xs.take k).length = k := by rw [List.length_take]; omega
  rw [List.getD_eq_getElem?_getD]
  by_cases h1 : i < k
  · rw [if_pos h1, List.getElem?_append_left (by omega), List.getElem?_take, if_pos h1, List.getD_eq_getElem?_getD]
  · rw [if_neg h1, List.getElem?_append_right (by omega), hl]
    by_cases h2 : i = k
    · rw [if_pos h2, h2, Nat.sub_self]
      rfl
    · rw [if_neg h2, show i - k = (i - k - 1) + 1 by omega, List.getElem?_cons_succ, List.getElem?_drop, show k + (i - k - 1) = i - 1 by omega, List.getD_eq_getElem?_getD]
theorem ins_in {w : World} {B : Nat} {xs : List Im} {y : Im} (h : ∀ i, i < xs.length → ImIn w B (it xs i)) (k : Nat) (hk : k ≤ xs.length) (hy : ImIn w B y) : ∀ i, i < (ins xs k y).length → ImIn w B (it (ins xs k y) i) := fun i hi => by
  rw [ins_len xs k y hk] at hi
  rw [it_ins xs k y hk]
  by_cases h1 : i < k
  · rw [if_pos h1]
    exact h i (by omega)
  · rw [if_neg h1]
    by_cases h2 : i = k
    · rw [if_pos h2]
      exact hy
    · rw [if_neg h2]
      exact h (i - 1) (by omega)
theorem ins_cells (xs : List Im) (k : Nat) (y : Im) : ((xs.take k).flatMap Flat.cells ++ Im.cs y) ++ (xs.drop k).flatMap Flat.cells = (ins xs k y).flatMap Flat.cells := by
  unfold ins
  rw [List.flatMap_append, List.flatMap_cons, List.append_assoc]
  rfl
set_option maxRecDepth 20000 in
set_option maxHeartbeats 4000000 in
theorem pgInsert_some (b o : Nat) (c : Nat) (xs : List Im) (k : Nat) (y : Im) (w : World) (hr : Ims w w.heap.size (some ⟨b, o, none⟩) xs) (hy : ImIn w w.heap.size y) (hk : k ≤ xs.length) (h14 : xs.length ≤ 14) (hc : xs.length ≤ c ∧ c ≤ 9223372036854775807) :
    Calls Tryz.prog 38 #[.slice (some ⟨b, o, none⟩) xs.length c, .int .i64 k, y.val] w fun e w' => (∃ R d, e = .returned (.slice R (ins xs k y).length d) ∧ RowOk R (ins xs k y).length d ∧ Ims w' w'.heap.size R (ins xs k y)) ∧ Below w.heap.size w w' := by
  obtain ⟨i0, hi, hz0, hz1, hz2⟩ := info_parts Tryz.infoIm
  have HZ := Lib.hid (And.intro hi (And.intro hz0 (And.intro hz1 hz2)))
  obtain ⟨W, hW, hI⟩ := boxedI 41 w y
  have HB := Lib.hid hI.below
  have HR := Lib.hid (hr.next hI.below)
  have HY := Lib.hid (hy.next hI.below)
  have HX := Lib.hid hI.box
  have HXd := Lib.hid (hI.box.next (below_drew W))
  obtain ⟨d', hd'⟩ : ∃ d', xs.length = k + d' := ⟨xs.length - k, by omega⟩
  have HD := Lib.hid hd'
  have HC := Lib.hid hc
  have HEL := Lib.hid (show (ins xs k y).length = k + 1 + d' by rw [ins_len xs k y hk]; omega)
  have HSR1 := Lib.hid (fun W' (hb : Below W.heap.size W W') (hp : 0 < k) => head_src HR.out.out hb k hk hp)
  have HSR2 := Lib.hid (fun W' (hb : Below W.heap.size W W') (hp : 0 < d') => tail_src HR.out.out hb k (by have := HD.out; omega))
  have HPRE1 := Lib.hid trivial
  have q0 : (0 : Int) ≤ (k : Int) := by omega
  have q1 : (k : Int) ≤ (c : Int) := by omega
  have q3 : (k : Int) ≤ (xs.length : Int) := by omega
  have q4 : (xs.length : Int) ≤ (c : Int) := by omega
  have q7 : xs.length - k = d' := by omega
  have hi24 : k ≤ 24 := by omega
  have hd24 : d' ≤ 24 := by omega
  have hle : k ≤ xs.length := hk
  clear hr hy hi hz0 hz1 hz2 hd' hI
  unfold boxIm at hW
  unfold Im.val
  by_cases hcap : k = c
  · have HD0 := Lib.hid (show d' = 0 by have := HD.out; have := HC.out; omega)
    subst hcap
    go_enter Tryz.func38, Tryz.ntmps38
    go_wp2_with fail
    rw [← hW]
    clear hW
    go_region_held3 (fun w' => w'.cell? ⟨w.heap.size, 0, none⟩ = some (.slice y.A y.ns.length y.c) ∧ w'.cell? ⟨w.heap.size, 1, none⟩ = some (.slice y.L y.ms.length y.d) ∧ w'.cell? ⟨w.heap.size, 2, none⟩ = some (.bool y.late))
      (first | (with_reducible exact imCells HXd.out) | (with_reducible exact imCells (HX.out.next HB8.out)) | (with_reducible exact imCells (imBox_alloc (HX.out.next HB6.out) _)) | (with_reducible exact imCells (HX.out.next HB7.out)) | (with_reducible exact imCells (HX.out.next HB6.out)) | (exact imCells (HX.out.next (below_adn W _))) | (exact imCells (HX.out.next (below_next (below_alloc W _) (below_adn _ _)))) | fail)
      (first
        | (have hpre := HPRE1; clear hpre HPRE1; refine step_append_srcN _ (by rfl) (.tmp 7) (.tmp 10) 33 (by rfl) W.heap.size 41 i0 (.agg #[.slice none 0 0, .slice none 0 0, .bool false]) 3 56 (by decide) Tryz.underlying33 HZ.out.1 HZ.out.2.1 HZ.out.2.2.1 HZ.out.2.2.2 rfl (.slice (some ⟨_, 0, none⟩) 0 0) 0 [] (by rfl) (by exact owns_emptyN _ _ _ _ _ (by first | (simp; done) | (simp; omega) | omega) (by first | exact heap_at_new _ _ _ (by simp; done) | exact heap_at_old _ _ _ _ (by first | (simp; done) | (simp; omega) | omega) (heap_at_new _ _ _ (by simp; done)))) (some ⟨b, o, none⟩) k _ ((xs.take k).flatMap Flat.cells) (by rfl) (by rw [flat_len, List.length_take, Nat.min_eq_left (by omega)]; rfl) (by exact fun hp => ⟨_, rfl, HSR1.out _ (by go_grown; all_goals omega) hp⟩) (im_one _) (by unfold maxLen; omega) (by omega) (by first | (simp; done) | (simp; omega) | omega) ?_; intro v6 w6 hown6 hgrow6 hat6; rw [Nat.zero_add, List.nil_append] at hown6; have hb6 : Below W.heap.size W w6 := Below.grown (by go_grown; all_goals omega) hgrow6 (by first | (simp; done) | (simp; omega) | omega) (by intro kk e; cases e; first | (simp; done) | (simp; omega)); have HO6 := Lib.hid hown6; have HG6 := Lib.hid hgrow6; have HB6 := Lib.hid hb6; have HPRE2 := Lib.hid trivial; clear hown6 hgrow6 hat6 hb6)
        | (have hpre := HPRE2; clear hpre HPRE2; refine step_append_srcN _ (by rfl) (.tmp 11) (.tmp 13) 33 (by rfl) W.heap.size 41 i0 (.agg #[.slice none 0 0, .slice none 0 0, .bool false]) 3 56 (by decide) Tryz.underlying33 HZ.out.1 HZ.out.2.1 HZ.out.2.2.1 HZ.out.2.2.2 rfl v6 k _ (by rfl) (by first | exact HO6.out | exact HO6.out.alloc _) (some ⟨_, 0, none⟩) 1 1 (Im.cs y) (by rfl) rfl (fun _ => ⟨_, rfl, im_news (by first | (simp; done) | (rw [HG6.out.cell_far _ (by first | (simp; done) | (simp; omega) | omega) (by simp [Value.ownBlock]; done)]; simp; done)) (by first | (simp; done) | (rw [HG6.out.cell_far _ (by first | (simp; done) | (simp; omega) | omega) (by simp [Value.ownBlock]; done)]; simp; done)) (by first | (simp; done) | (rw [HG6.out.cell_far _ (by first | (simp; done) | (simp; omega) | omega) (by simp [Value.ownBlock]; done)]; simp; done))⟩) (im_one1 _) (by unfold maxLen; omega) (by omega) (by first | exact HB6.out.size | (have := HB6.out.size; simp; omega)) ?_; intro v7 w7 hown7 hgrow7 hat7; have hb7 : Below W.heap.size W w7 := Below.grown (by first | exact HB6.out | exact HB6.out.alloc HB6.out.size _) hgrow7 (by first | exact HB6.out.size | (have := HB6.out.size; simp; omega)) (fun kk e => (HO6.out.lt kk e).1); have HO7 := Lib.hid hown7; have HB7 := Lib.hid hb7; have HPRE3 := Lib.hid trivial; clear hown7 hgrow7 hat7 hb7)
        | (have hpre := HPRE3; clear hpre HPRE3; refine step_append_srcN _ (by rfl) (.tmp 14) (.tmp 17) 33 (by rfl) W.heap.size 41 i0 (.agg #[.slice none 0 0, .slice none 0 0, .bool false]) 3 56 (by decide) Tryz.underlying33 HZ.out.1 HZ.out.2.1 HZ.out.2.2.1 HZ.out.2.2.2 rfl v7 (k + 1) _ (by rfl) HO7.out (some ⟨b, o, none⟩) d' _ ((xs.drop k).flatMap Flat.cells) (by rfl) (by rw [flat_len, List.length_drop]; have := HD.out; show _ * 3 = _; omega) (fun hp => absurd HD0.out (Nat.ne_of_gt hp)) (im_one _) (by unfold maxLen; omega) (by omega) HB7.out.size ?_; intro v8 w8 hown8 hgrow8 hat8; have hb8 := Below.grown HB7.out hgrow8 HB7.out.size (fun kk e => (HO7.out.lt kk e).1); have HB8 := Lib.hid hb8; have HO8 := Lib.hid hown8; clear hown8 hgrow8 hat8 hb8)
        | fail)
    all_goals
      have ho8 := HO8.out
      rw [ins_cells, ← HEL.out] at ho8
      obtain ⟨R, dd, rfl, hdd, hims⟩ := ims_of_row _ ho8 (ins_in (HR.out.next HB8.out).each k hle (HY.out.next HB8.out))
      have HI := Lib.hid hims
      have HDD := Lib.hid hdd
      clear ho8 hims hdd
      go_wp2
      go_returns
      exact ⟨⟨R, dd, rfl, HDD.out, HI.out⟩, below_next HB.out HB8.out⟩
  · have q9 : k < c := by omega
    have hne : ¬ c = k := by omega
    go_enter Tryz.func38, Tryz.ntmps38
    go_wp2_with fail
    rw [← hW]
    clear hW
    go_region_held3 (fun w' => w'.cell? ⟨w.heap.size, 0, none⟩ = some (.slice y.A y.ns.length y.c) ∧ w'.cell? ⟨w.heap.size, 1, none⟩ = some (.slice y.L y.ms.length y.d) ∧ w'.cell? ⟨w.heap.size, 2, none⟩ = some (.bool y.late))
      (first | (with_reducible exact imCells HXd.out) | (with_reducible exact imCells (HX.out.next HB8.out)) | (with_reducible exact imCells (imBox_alloc (HX.out.next HB6.out) _)) | (with_reducible exact imCells (HX.out.next HB7.out)) | (with_reducible exact imCells (HX.out.next HB6.out)) | (exact imCells (HX.out.next (below_adn W _))) | (exact imCells (HX.out.next (below_next (below_alloc W _) (below_adn _ _)))) | fail)
      (first
        | (have hpre := HPRE1; clear hpre HPRE1; refine step_append_srcN _ (by rfl) (.tmp 7) (.tmp 10) 33 (by rfl) W.heap.size 41 i0 (.agg #[.slice none 0 0, .slice none 0 0, .bool false]) 3 56 (by decide) Tryz.underlying33 HZ.out.1 HZ.out.2.1 HZ.out.2.2.1 HZ.out.2.2.2 rfl (.slice (some ⟨_, 0, none⟩) 0 0) 0 [] (by rfl) (by exact owns_emptyN _ _ _ _ _ (by first | (simp; done) | (simp; omega) | omega) (by first | exact heap_at_new _ _ _ (by simp; done) | exact heap_at_old _ _ _ _ (by first | (simp; done) | (simp; omega) | omega) (heap_at_new _ _ _ (by simp; done)))) (some ⟨b, o, none⟩) k _ ((xs.take k).flatMap Flat.cells) (by rfl) (by rw [flat_len, List.length_take, Nat.min_eq_left (by omega)]; rfl) (by exact fun hp => ⟨_, rfl, HSR1.out _ (by go_grown; all_goals omega) hp⟩) (im_one _) (by unfold maxLen; omega) (by omega) (by first | (simp; done) | (simp; omega) | omega) ?_; intro v6 w6 hown6 hgrow6 hat6; rw [Nat.zero_add, List.nil_append] at hown6; have hb6 : Below W.heap.size W w6 := Below.grown (by go_grown; all_goals omega) hgrow6 (by first | (simp; done) | (simp; omega) | omega) (by intro kk e; cases e; first | (simp; done) | (simp; omega)); have HO6 := Lib.hid hown6; have HG6 := Lib.hid hgrow6; have HB6 := Lib.hid hb6; have HPRE2 := Lib.hid trivial; clear hown6 hgrow6 hat6 hb6)
        | (have hpre := HPRE2; clear hpre HPRE2; refine step_append_srcN _ (by rfl) (.tmp 11) (.tmp 13) 33 (by rfl) W.heap.size 41 i0 (.agg #[.slice none 0 0, .slice none 0 0, .bool false]) 3 56 (by decide) Tryz.underlying33 HZ.out.1 HZ.out.2.1 HZ.out.2.2.1 HZ.out.2.2.2 rfl v6 k _ (by rfl) (by first | exact HO6.out | exact HO6.out.alloc _) (some ⟨_, 0, none⟩) 1 1 (Im.cs y) (by rfl) rfl (fun _ => ⟨_, rfl, im_news (by first | (simp; done) | (rw [HG6.out.cell_far _ (by first | (simp; done) | (simp; omega) | omega) (by simp [Value.ownBlock]; done)]; simp; done)) (by first | (simp; done) | (rw [HG6.out.cell_far _ (by first | (simp; done) | (simp; omega) | omega) (by simp [Value.ownBlock]; done)]; simp; done)) (by first | (simp; done) | (rw [HG6.out.cell_far _ (by first | (simp; done) | (simp; omega) | omega) (by simp [Value.ownBlock]; done)]; simp; done))⟩) (im_one1 _) (by unfold maxLen; omega) (by omega) (by first | exact HB6.out.size | (have := HB6.out.size; simp; omega)) ?_; intro v7 w7 hown7 hgrow7 hat7; have hb7 : Below W.heap.size W w7 := Below.grown (by first | exact HB6.out | exact HB6.out.alloc HB6.out.size _) hgrow7 (by first | exact HB6.out.size | (have := HB6.out.size; simp; omega)) (fun kk e => (HO6.out.lt kk e).1); have HO7 := Lib.hid hown7; have HB7 := Lib.hid hb7; have HPRE3 := Lib.hid trivial; clear hown7 hgrow7 hat7 hb7)
        | (have hpre := HPRE3; clear hpre HPRE3; refine step_append_srcN _ (by rfl) (.tmp 14) (.tmp 17) 33 (by rfl) W.heap.size 41 i0 (.agg #[.slice none 0 0, .slice none 0 0, .bool false]) 3 56 (by decide) Tryz.underlying33 HZ.out.1 HZ.out.2.1 HZ.out.2.2.1 HZ.out.2.2.2 rfl v7 (k + 1) _ (by rfl) HO7.out (some ⟨b, o + k * 3, none⟩) d' _ ((xs.drop k).flatMap Flat.cells) (by rfl) (by rw [flat_len, List.length_drop]; have := HD.out; show _ * 3 = _; omega) (fun hp => ⟨_, rfl, HSR2.out _ HB7.out hp⟩) (im_one _) (by unfold maxLen; omega) (by omega) HB7.out.size ?_; intro v8 w8 hown8 hgrow8 hat8; have hb8 := Below.grown HB7.out hgrow8 HB7.out.size (fun kk e => (HO7.out.lt kk e).1); have HB8 := Lib.hid hb8; have HO8 := Lib.hid hown8; clear hown8 hgrow8 hat8 hb8)
        | fail)
    all_goals
      have ho8 := HO8.out
      rw [ins_cells, ← HEL.out] at ho8
      obtain ⟨R, dd, rfl, hdd, hims⟩ := ims_of_row _ ho8 (ins_in (HR.out.next HB8.out).each k hle (HY.out.next HB8.out))
      have HI := Lib.hid hims
      have HDD := Lib.hid hdd
      clear ho8 hims hdd
      go_wp2
      go_returns
      exact ⟨⟨R, dd, rfl, HDD.out, HI.out⟩, below_next HB.out HB8.out⟩
set_option maxRecDepth 20000 in
set_option maxHeartbeats 4000000 in
theorem pgInsert_none (y : Im) (w : World) (hy : ImIn w w.heap.size y) :
    Calls Tryz.prog 38 #[.slice none 0 0, .int .i64 0, y.val] w fun e w' => (∃ R d, e = .returned (.slice R [y].length d) ∧ RowOk R [y].length d ∧ Ims w' w'.heap.size R [y]) ∧ Below w.heap.size w w' := by
  obtain ⟨i0, hi, hz0, hz1, hz2⟩ := info_parts Tryz.infoIm
  have HZ := Lib.hid (And.intro hi (And.intro hz0 (And.intro hz1 hz2)))
  obtain ⟨W, hW, hI⟩ := boxedI 41 w y
  have HB := Lib.hid hI.below
  have HY := Lib.hid (hy.next hI.below)
  have HX := Lib.hid hI.box
  have HXd := Lib.hid (hI.box.next (below_drew W))
  have HPRE1 := Lib.hid trivial
  clear hy hi hz0 hz1 hz2 hI
  unfold boxIm at hW
  unfold Im.val
  · go_enter Tryz.func38, Tryz.ntmps38
    go_wp2_with fail
    rw [← hW]
    clear hW
    go_region_held3 (fun w' => w'.cell? ⟨w.heap.size, 0, none⟩ = some (.slice y.A y.ns.length y.c) ∧ w'.cell? ⟨w.heap.size, 1, none⟩ = some (.slice y.L y.ms.length y.d) ∧ w'.cell? ⟨w.heap.size, 2, none⟩ = some (.bool y.late))
      (first | (with_reducible exact imCells HXd.out) | (with_reducible exact imCells (HX.out.next HB8.out)) | (with_reducible exact imCells (imBox_alloc (HX.out.next HB6.out) _)) | (with_reducible exact imCells (HX.out.next HB7.out)) | (with_reducible exact imCells (HX.out.next HB6.out)) | (exact imCells (HX.out.next (below_adn W _))) | (exact imCells (HX.out.next (below_next (below_alloc W _) (below_adn _ _)))) | fail)
      (first
        | (have hpre := HPRE1; clear hpre HPRE1; refine step_append_srcN _ (by rfl) (.tmp 7) (.tmp 10) 33 (by rfl) W.heap.size 41 i0 (.agg #[.slice none 0 0, .slice none 0 0, .bool false]) 3 56 (by decide) Tryz.underlying33 HZ.out.1 HZ.out.2.1 HZ.out.2.2.1 HZ.out.2.2.2 rfl (.slice (some ⟨_, 0, none⟩) 0 0) 0 [] (by rfl) (by exact owns_emptyN _ _ _ _ _ (by first | (simp; done) | (simp; omega) | omega) (by first | exact heap_at_new _ _ _ (by simp; done) | exact heap_at_old _ _ _ _ (by first | (simp; done) | (simp; omega) | omega) (heap_at_new _ _ _ (by simp; done)))) none 0 _ [] (by rfl) rfl (fun hp => absurd hp (by omega)) (fun u hu => absurd hu (by simp)) (by unfold maxLen; omega) (by omega) (by first | (simp; done) | (simp; omega) | omega) ?_; intro v6 w6 hown6 hgrow6 hat6; rw [Nat.zero_add, List.append_nil] at hown6; have hb6 : Below W.heap.size W w6 := Below.grown (by go_grown; all_goals omega) hgrow6 (by first | (simp; done) | (simp; omega) | omega) (by intro kk e; cases e; first | (simp; done) | (simp; omega)); have HO6 := Lib.hid hown6; have HG6 := Lib.hid hgrow6; have HB6 := Lib.hid hb6; have HPRE2 := Lib.hid trivial; clear hown6 hgrow6 hat6 hb6)
        | (have hpre := HPRE2; clear hpre HPRE2; refine step_append_srcN _ (by rfl) (.tmp 11) (.tmp 13) 33 (by rfl) W.heap.size 41 i0 (.agg #[.slice none 0 0, .slice none 0 0, .bool false]) 3 56 (by decide) Tryz.underlying33 HZ.out.1 HZ.out.2.1 HZ.out.2.2.1 HZ.out.2.2.2 rfl v6 0 _ (by rfl) (by first | exact HO6.out | exact HO6.out.alloc _) (some ⟨_, 0, none⟩) 1 1 (Im.cs y) (by rfl) rfl (fun _ => ⟨_, rfl, im_news (by first | (simp; done) | (rw [HG6.out.cell_far _ (by first | (simp; done) | (simp; omega) | omega) (by simp [Value.ownBlock]; done)]; simp; done)) (by first | (simp; done) | (rw [HG6.out.cell_far _ (by first | (simp; done) | (simp; omega) | omega) (by simp [Value.ownBlock]; done)]; simp; done)) (by first | (simp; done) | (rw [HG6.out.cell_far _ (by first | (simp; done) | (simp; omega) | omega) (by simp [Value.ownBlock]; done)]; simp; done))⟩) (im_one1 _) (by unfold maxLen; omega) (by omega) (by first | exact HB6.out.size | (have := HB6.out.size; simp; omega)) ?_; intro v7 w7 hown7 hgrow7 hat7; have hb7 : Below W.heap.size W w7 := Below.grown (by first | exact HB6.out | exact HB6.out.alloc HB6.out.size _) hgrow7 (by first | exact HB6.out.size | (have := HB6.out.size; simp; omega)) (fun kk e => (HO6.out.lt kk e).1); have HO7 := Lib.hid hown7; have HB7 := Lib.hid hb7; have HPRE3 := Lib.hid trivial; clear hown7 hgrow7 hat7 hb7)
        | (have hpre := HPRE3; clear hpre HPRE3; refine step_append_srcN _ (by rfl) (.tmp 14) (.tmp 17) 33 (by rfl) W.heap.size 41 i0 (.agg #[.slice none 0 0, .slice none 0 0, .bool false]) 3 56 (by decide) Tryz.underlying33 HZ.out.1 HZ.out.2.1 HZ.out.2.2.1 HZ.out.2.2.2 rfl v7 (0 + 1) _ (by rfl) HO7.out none 0 _ [] (by rfl) rfl (fun hp => absurd hp (by omega)) (fun u hu => absurd hu (by simp)) (by unfold maxLen; omega) (by omega) HB7.out.size ?_; intro v8 w8 hown8 hgrow8 hat8; have hb8 := Below.grown HB7.out hgrow8 HB7.out.size (fun kk e => (HO7.out.lt kk e).1); have HB8 := Lib.hid hb8; have HO8 := Lib.hid hown8; clear hown8 hgrow8 hat8 hb8)
        | fail)
    all_goals
      have ho8 : w8.ownsRow W.heap.size 41 3 v8 [y].length ([y].flatMap Flat.cells) := HO8.out
      obtain ⟨R, dd, rfl, hdd, hims⟩ := ims_of_row _ ho8 (fun i hi => by
        obtain rfl : i = 0 := by simpa using hi
        exact HY.out.next HB8.out)
      have HI := Lib.hid hims
      have HDD := Lib.hid hdd
      clear ho8 hims hdd
      go_wp2
      go_returns
      exact ⟨⟨R, dd, rfl, HDD.out, HI.out⟩, below_next HB.out HB8.out⟩
/-- A list with one item more, wherever it lies. -/
theorem pgInsert_any (P : Option Addr) (c : Nat) (xs : List Im) (k : Nat) (y : Im) (w : World) (hr : Ims w w.heap.size P xs) (hy : ImIn w w.heap.size y) (hk : k ≤ xs.length) (h14 : xs.length ≤ 14) (hc : RowOk P xs.length c) :
    Calls Tryz.prog 38 #[.slice P xs.length c, .int .i64 k, y.val] w fun e w' => (∃ R d, e = .returned (.slice R (ins xs k y).length d) ∧ RowOk R (ins xs k y).length d ∧ Ims w' w'.heap.size R (ins xs k y)) ∧ Below w.heap.size w w' := by
  rcases hc.form with ⟨rfl, rfl⟩ | ⟨b, o, rfl⟩
  · have h0 := hc.le
    obtain rfl : xs = [] := List.eq_nil_of_length_eq_zero (by omega)
    obtain rfl : k = 0 := by simpa using hk
    exact pgInsert_none y w hy
  · exact pgInsert_some b o c xs k y w hr hy hk h14 ⟨hc.le, hc.hi⟩
end Go.Proofs.YtnlcdfaojcnkpaaGreatDoor
