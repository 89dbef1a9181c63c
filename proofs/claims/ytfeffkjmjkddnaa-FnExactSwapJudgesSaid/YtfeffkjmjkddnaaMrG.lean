/- A judge's column, in the program and in the model; JudgeMarks of both. -/
import Derived.Test.YtfeffkjmjkddnaaMrF
import Derived.Test.YtfeffkjmjkddnaaApp
import Derived.Test.YtfeffkjmjkddnaaAppN
import Derived.Deep.RegionHeld3
namespace Go.Proofs.Ytfeffkjmjkddnaa
open Go.ChangeShapes Go.WideShapes Go.ChangeAt Go.RowKit Go.Lib Go.Proofs Go.PlainAid
set_option linter.unusedVariables false

theorem flatMap_int (xs : List Int) : xs.flatMap Flat.cells = xs.map (Value.int .i64) := by
  induction xs with
  | nil => rfl
  | cons x r ih =>
    rw [List.flatMap_cons, List.map_cons, ih]
    rfl
theorem own_heap {w w' : World} {base size n : Nat} {e : TypeId} {v : Value} {xs : List Value} (h : w.ownsRow base e size v n xs) (hb : ∀ k, v.ownBlock = some k → w'.heap[k]? = w.heap[k]?) : w'.ownsRow base e size v n xs := by
  obtain ⟨h0, h | ⟨g, cap, cur, rfl, h1, h2, h3⟩⟩ := h
  · exact ⟨h0, .inl h⟩
  · exact ⟨h0, .inr ⟨g, cap, cur, rfl, h1, (hb g rfl).trans h2, h3⟩⟩
theorem own_next {w w' : World} {base size n : Nat} {e : TypeId} {v : Value} {xs : List Value} (h : w.ownsRow base e size v n xs) (hb : Below w.heap.size w w') : w'.ownsRow base e size v n xs :=
  own_heap h (fun k e => hb.block k (h.lt k e).2)
theorem int_ones (xs : List Int) : ∀ u ∈ xs.map (Value.int .i64), u.oneCell' = true := fun u hu => by
  obtain ⟨x, _, rfl⟩ := List.mem_map.1 hu
  rfl
theorem int_news {W : World} {b : Nat} {x : Int} (h : W.cell? ⟨b, 0, none⟩ = some (.int .i64 x)) : ∀ j u, ([x].map (Value.int .i64))[j]? = some u → W.cell? ((⟨b, 0, none⟩ : Addr).add j) = some u := fun j u hj => by
  match j, hj with
  | 0, hj =>
    obtain rfl := Option.some.inj hj
    exact h
theorem own_formI {w : World} {B : Nat} {e : TypeId} {v : Value} (ys : List Int) (h : w.ownsRow B e 1 v ys.length (ys.map (Value.int .i64))) : ∃ R d, v = .slice R ys.length d ∧ Owned (fun i => B ≤ i ∧ i < w.heap.size) w R ys := by
  rcases h.2 with ⟨hv, h0⟩ | ⟨g, cap, cur, rfl, h3, h4, h5⟩
  · exact ⟨none, 0, by rw [hv, h0], fun hp => absurd hp (by omega)⟩
  · have hlt := h.lt g rfl
    exact ⟨some ⟨g, 0, none⟩, cap, rfl, fun _ => ⟨g, 0, rfl, ⟨hlt.1, hlt.2⟩, hlt.2, own_of_row (α := Int) (cap := cap) (e := e) (base := B) ys (by rw [flatMap_int]; exact h)⟩⟩
/-- A list of ints as an answer. -/
structure IntsAns (l : List Int) (w w' : World) (y : Rw Int) : Prop where
  v0 : y.xs = l
  o0 : Nst.Own (iv w.heap.size w'.heap.size) w' y
theorem ints_eqv {l : List Int} {y z : Rw Int} (h : y.xs = l) (k : z.xs = l) : Nst.Eqv y z := k.trans h.symm
theorem ints_fit {l : List Int} {y : Rw Int} (h : y.xs = l) (k : l.length ≤ 1000) : NFit y := by
  show y.xs.length ≤ 1048576
  rw [h]
  omega
structure Ints2Ans (l m : List Int) (w w' : World) (y z : Rw Int) (S T : Nat → Prop) : Prop where
  v0 : y.xs = l
  v1 : z.xs = m
  o0 : Nst.Own S w' y
  o1 : Nst.Own T w' z
  s : ∀ i, S i → iv w.heap.size w'.heap.size i
  t : ∀ i, T i → iv w.heap.size w'.heap.size i
  d : ∀ i, S i → ¬ T i

def colTo (g : List (List Int)) (j k : Nat) : List Int := (List.range k).map fun i => it (it g i) j
theorem colTo_len (g : List (List Int)) (j k : Nat) : (colTo g j k).length = k := by simp [colTo]
theorem colTo_succ (g : List (List Int)) (j k : Nat) : colTo g j (k + 1) = colTo g j k ++ [it (it g k) j] := by
  unfold colTo
  rw [List.range_succ, List.map_append]
  rfl
theorem colTo_it (g : List (List Int)) (j k i : Nat) (hi : i < k) : it (colTo g j k) i = it (it g i) j := by
  conv => lhs; unfold it colTo
  simp [hi]
theorem colTo_all (g : List (List Int)) (j : Nat) : colTo g j g.length = colL g j := by
  refine it_ext _ _ (by rw [colTo_len, colL_len]) (fun i hi => ?_)
  rw [colTo_len] at hi
  rw [colTo_it g j _ i hi, colL_it g j i hi]
set_option maxHeartbeats 1000000 in
theorem mkColumn_any (q : Rw (Rw Int)) (j : Nat) (w : World) (hr : Nst.In w w.heap.size q) (hl : NFit q) (hj : ∀ i, i < q.xs.length → j < (it q.xs i).xs.length) :
    Calls Try.prog 49 #[.slice q.A q.xs.length q.c, .int .i64 j] w fun e w' => (∃ y : Rw Int, e = .returned (.slice y.A y.xs.length y.c) ∧ IntsAns (colL (ctt q) j) w w' y) ∧ Below w.heap.size w w' := by
  obtain ⟨i0, hi, hz0, hz1, hz2⟩ := info_parts Try.infoInt
  have HZ := Lib.hid (And.intro hi (And.intro hz0 (And.intro hz1 hz2)))
  have HR := Lib.hid hr
  have HF := Lib.hid hl
  have HJ := Lib.hid hj
  have hg1 := nfit_len hl
  clear hr hl hj hi hz0 hz1 hz2
  go_enter Try.func49, Try.ntmps49
  go_wp2_with fail
  go_loopw [5, 10] (fun v i wr => ∃ k : Nat, k ≤ q.xs.length ∧ i = .int .i64 k ∧ Hid (Below w.heap.size w wr) ∧ Hid (wr.ownsRow w.heap.size 3 1 v k ((colTo (ctt q) j k).map (Value.int .i64)))) (fun _ i _ => q.xs.length - (intOf i).toNat)
  case atStart => exact ⟨0, Nat.zero_le _, rfl, Lib.hid (Below.refl _ _), Lib.hid ⟨rfl, .inl ⟨rfl, rfl⟩⟩⟩
  case round =>
    obtain ⟨k, hk, rfl, HBR, HO⟩ := hrel
    by_cases hlt : k < q.xs.length
    · obtain ⟨b', o', hA', hbl', hc'⟩ := mr_cell HR.out (by omega)
      have hck := (HBR.out.cell (p := ⟨b', o' + k, none⟩) hbl').trans (hc' k hlt)
      obtain ⟨b, o, hA, hbl, hc⟩ := (show Lst w w.heap.size (it q.xs k).A (it q.xs k).xs from mr_each HR.out k hlt).int (by have := HJ.out k hlt; omega)
      have hcj := (HBR.out.cell (p := ⟨b, o + j, none⟩) hbl).trans (hc j (HJ.out k hlt))
      rw [hA']
      rw [hA] at hck
      have hi1 : (0 : Int) ≤ (j : Int) := by omega
      have hi2 : (j : Int) < ((it q.xs k).xs.length : Int) := by have := HJ.out k hlt; omega
      have hlk := nfit_len (nfit_each HF.out k hlt)
      have hbs := HBR.out.size
      clear hc' hA' hc hA
      go_wp2_with (at_builtin; refine wpList_append_src _ rfl (.tmp 14) (.tmp 19) 34 rfl w.heap.size 3 i0 (.int .i64 0) 8 Try.underlying34 HZ.out.1 HZ.out.2.1 HZ.out.2.2.1 HZ.out.2.2.2 rfl _ k ((colTo (ctt q) j k).map (Value.int .i64)) rfl (HO.out.alloc _) (some ⟨wr.heap.size, 0, none⟩) 1 1 ([it (it q.xs k).xs j].map (Value.int .i64)) rfl rfl (fun _ => ⟨_, rfl, int_news (by simp)⟩) (int_ones _) (by unfold maxLen; omega) (by omega) (by simp; omega) ?_; intro v1 w4 hown hgrow hat)
      have hb4 : Below w.heap.size w w4 := Below.grown (below_next HBR.out (below_alloc _ _)) hgrow (by simp; omega) (fun m e => (HO.out.lt m e).1)
      have HB4 := Lib.hid hb4
      have HOWN := Lib.hid (show w4.ownsRow w.heap.size 3 1 v1 (k + 1) ((colTo (ctt q) j (k + 1)).map (Value.int .i64)) from by
        rw [colTo_succ, List.map_append, ctt_it]
        exact hown)
      clear hown hgrow hat hb4
      go_wp2
      go_roundw
      case rel => exact ⟨k + 1, by omega, by go_num, HB4, HOWN⟩
      case measure => simp [intOf]; omega
    · obtain rfl : k = q.xs.length := by omega
      have ho := HO.out
      have he : q.xs.length = (colL (ctt q) j).length := by rw [colL_len, ctt_len]
      rw [← ctt_len, colTo_all, ctt_len, he] at ho
      obtain ⟨R, d1, rfl, ho2⟩ := own_formI _ ho
      have HOO := Lib.hid (show Nst.Own (iv w.heap.size wr.heap.size) wr (⟨R, d1, colL (ctt q) j⟩ : Rw Int) from ho2)
      clear ho ho2
      go_wp2
      go_ret
      exact ⟨⟨⟨R, d1, colL (ctt q) j⟩, rfl, rfl, HOO.out⟩, HBR.out⟩
set_option maxHeartbeats 1000000 in
theorem columnOf_any (q : Rw (Rw Int)) (j : Nat) (w : World) (hr : Nst.In w w.heap.size q) (hl : NFit q) (hj : ∀ i, i < q.xs.length → j < (it q.xs i).xs.length) :
    Calls Try.prog 51 #[.slice q.A q.xs.length q.c, .int .i64 j] w fun e w' => (∃ y : Rw Int, e = .returned (.slice y.A y.xs.length y.c) ∧ IntsAns (colL (ctt q) j) w w' y) ∧ Below w.heap.size w w' := by
  obtain ⟨i0, hi, hz0, hz1, hz2⟩ := info_parts Try.infoInt
  have HZ := Lib.hid (made_flat (α := Int) #[.int .i64 0] 0 q.xs.length rfl (by decide))
  have HR := Lib.hid hr
  have HF := Lib.hid hl
  have HJ := Lib.hid hj
  have hg1 := nfit_len hl
  clear hr hl hj
  go_enter Try.func51, Try.ntmps51
  go_wp2_with (at_make; refine wpList_make_full _ rfl (.tmp 9) (.tmp 9) 34 rfl w.heap.size 3 i0 (.int .i64 0) 1 Try.underlying34 hi hz0 hz1 .i64 .i64 _ _ q.xs.length rfl rfl rfl rfl (by rw [hz2]; omega) (by unfold maxLen; omega) (Nat.le_refl _) ?_; intro w1 hown hgrow)
  have HW := Lib.hid (show OwnAt w1 w.heap.size 0 (List.replicate q.xs.length (0 : Int)) from own_of_row (α := Int) (cap := q.xs.length) (e := 3) (base := w.heap.size) _ (by rw [← HZ.out, List.length_replicate]; exact hown))
  have hb1 : Below w.heap.size w w1 := (Below.refl _ _).grown hgrow (Nat.le_refl _) (fun k e => by cases e)
  have hs1 := (hown.lt w.heap.size rfl).2
  have HB1 := Lib.hid hb1
  clear hown hgrow hb1
  go_wp2
  go_loopw [13] (fun i wr => ∃ (k : Nat) (ys : List Int), k ≤ q.xs.length ∧ i = .int .i64 k ∧ ys.length = q.xs.length ∧ Hid (∀ i, i < k → it ys i = it (it q.xs i).xs j) ∧ Hid (OwnAt wr w.heap.size 0 ys) ∧ w.heap.size < wr.heap.size ∧ Below w.heap.size w wr) (fun i _ => q.xs.length - (intOf i).toNat)
  case atStart => exact ⟨0, _, Nat.zero_le _, rfl, by rw [List.length_replicate], Lib.hid (fun i hi => absurd hi (by omega)), HW, hs1, HB1.out⟩
  case round =>
    obtain ⟨k, ys, hk, rfl, hy, HI, HO, hs, hb⟩ := hrel
    have HY := Lib.hid hy
    have HB := Lib.hid hb
    clear hy hb
    by_cases hlt : k < q.xs.length
    · obtain ⟨b', o', hA', hbl', hc'⟩ := mr_cell HR.out (by omega)
      have hck := (HB.out.cell (p := ⟨b', o' + k, none⟩) hbl').trans (hc' k hlt)
      obtain ⟨b, o, hA, hbl, hc⟩ := (show Lst w w.heap.size (it q.xs k).A (it q.xs k).xs from mr_each HR.out k hlt).int (by have := HJ.out k hlt; omega)
      have hcj := (HB.out.cell (p := ⟨b, o + j, none⟩) hbl).trans (hc j (HJ.out k hlt))
      rw [hA']
      rw [hA] at hck
      have hi1 : (0 : Int) ≤ (j : Int) := by omega
      have hi2 : (j : Int) < ((it q.xs k).xs.length : Int) := by have := HJ.out k hlt; omega
      have hk1 : (0 : Int) ≤ (k : Int) := by omega
      have hk2 : (k : Int) < (q.xs.length : Int) := by omega
      have hlk := nfit_len (nfit_each HF.out k hlt)
      obtain ⟨d0, f0⟩ := HO.out.int0 k (by have := HY.out; omega)
      have HP := Lib.hid (HO.out.putInt0 k (it (it q.xs k).xs j) (by have := HY.out; omega))
      clear hc' hA' hc hA
      go_wp2
      go_roundw
      case rel => exact ⟨k + 1, _, by omega, by go_num, by rw [List.length_set]; exact HY.out, Lib.hid (fun i hi => by
        rw [it_set _ _ _ _ (by have := HY.out; omega)]
        by_cases e : i = k
        · rw [if_pos e, e]
        · rw [if_neg e]; exact HI.out i (by omega)), HP, by simpa [World.setCell] using hs, HB.out.setCell (Nat.le_refl _) _⟩
      case measure => simp [intOf]; omega
    · obtain rfl : k = q.xs.length := by omega
      have he : ys = colL (ctt q) j := it_ext _ _ (by rw [HY.out, colL_len, ctt_len]) (fun i hi => by
        have hi' : i < q.xs.length := by have := HY.out; omega
        rw [HI.out i hi', colL_it _ _ _ (by rw [ctt_len]; exact hi'), ctt_it])
      have HE := Lib.hid he
      have hy := HY.out
      clear he
      go_wp2
      go_ret
      refine ⟨⟨⟨some ⟨w.heap.size, 0, none⟩, q.xs.length, ys⟩, ?_, HE.out, fun _ => ⟨w.heap.size, 0, rfl, ⟨Nat.le_refl _, hs⟩, hs, HO.out⟩⟩, HB.out⟩
      show Ending.returned (.slice _ q.xs.length _) = Ending.returned (.slice _ ys.length _)
      rw [hy]
end Go.Proofs.Ytfeffkjmjkddnaa
