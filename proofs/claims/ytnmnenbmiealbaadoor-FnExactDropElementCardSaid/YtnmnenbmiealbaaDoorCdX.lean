/- slices.Delete of one element, walked through the library's own text. -/
import Derived.Test.YtnmnenbmiealbaaDoorCdS
import Derived.Deep.RegionLaw
import Derived.Deep.MidRow
import Derived.Laws.IdiomCopy
namespace Go.Proofs.YtnmnenbmiealbaaDoor
open Go.ChangeShapes Go.WideShapes Go.ChangeAt Go.RowKit Go.PlainAid Go.Sort
set_option linter.unusedVariables false

def elZero : List Value := [.string ⟨#[]⟩, .int .i64 0, .int .i64 0, .int .i64 0]
theorem run_clear_el {P : Program} (w : World) (t e ty : TypeId) (ht : P.underlying t = some (.slice e)) (hv : ∀ w, (zeroValue e).run P w = .ok (.agg #[.string ⟨#[]⟩, .int .i64 0, .int .i64 0, .int .i64 0]) w) (b o c : Nat)
    (hc : ∀ j, j < 4 → (w.cell? ⟨b, o + j, none⟩).isSome = true) (hf : ∀ j, j < 4 → w.frozen? ⟨b, o + j, none⟩ = false) :
    (Builtin.clear_ #[t] ty #[.slice (some ⟨b, o, none⟩) 1 c]).run P w = .ok (.tuple #[]) (w.setCells b o elZero) := by
  have hst := run_storeCells_cells (P := P) b o elZero 0 w (by simpa [elZero] using hc) (by simpa [elZero] using hf) (by intro v hv'; simp [elZero] at hv'; rcases hv' with rfl | rfl <;> rfl)
  simp only [Nat.add_zero] at hst
  have hzc : (Builtin.zeroCells (Value.agg #[.string ⟨#[]⟩, .int .i64 0, .int .i64 0, .int .i64 0]).cells 1).toList = elZero := by kernel_rfl
  simp [Builtin.clear_, run_underlying ht, hv, hzc, hst]
theorem wpList_clear_run {P : Program} (w : World) {ops : Array Oper} {rest : List Oper} {o : Oper} {a : Act} {Q : Exit → Act → World → Prop} (hgd : o.guard = none) (x : Operand) (t : TypeId)
    (ho : o.op = .call { callee := .builtin .clear, args := #[x], argTypes := #[t] }) (v : Value) (hx : a.eval x = v) {v' : Value} {w' : World}
    (hr : (Builtin.clear_ #[t] o.type #[v]).run P w = .ok v' w') (h : wpList P ops Q rest (a.put o.dst v') w') : wpList P ops Q (o :: rest) a w :=
  wpList_plain hgd fun _ hK => by
    unfold Oper.wp execOp
    simp only [ho, resolve, invoke, builtin, Sem.run_bind, Sem.run_pure, Result.andThen_ok, List.map_toArray, List.map_cons, List.map_nil, hx, hr]
    exact hK _ _ h
theorem only_cells {S : Nat → Prop} {g : Nat} (hg : S g) : ∀ (vs : List Value) (o : Nat) (a w : World), Only S a w → Only S a (w.setCells g o vs)
  | [], _, _, _, h => h
  | v :: r, o, a, w, h => only_cells hg r (o + 1) a _ (h.setCell hg v)
/-- Cells of a whole list of elements. -/
theorem own_of_cells {w : World} {g : Nat} {xs : List El} (hc : ∀ j v, (xs.flatMap Flat.cells)[j]? = some v → w.cell? ⟨g, j, none⟩ = some v) (hf : ∀ j, j < xs.length * 4 → w.frozen? ⟨g, j, none⟩ = false) : OwnAt w g 0 xs := by
  refine ⟨fun i hi j v hv => ?_, fun i j hi hj => ?_⟩
  · have hj : j < Flat.sz El := by
      have := (List.getElem?_eq_some_iff.1 hv).1
      rwa [Flat.len] at this
    rw [Nat.zero_add]
    exact hc _ _ (by rw [flat_get xs i j hi hj]; exact hv)
  · have hj' : j < 4 := hj
    rw [Nat.zero_add]
    exact hf _ (by show i * 4 + j < _; omega)
theorem own_cells {w : World} {g : Nat} {xs : List El} (h : OwnAt w g 0 xs) : ∀ j v, (xs.flatMap Flat.cells)[j]? = some v → w.cell? ⟨g, j, none⟩ = some v := fun j v hj => by
  have := CellsAll (α := El) (b := g) (o := 0) (by decide) (fun i hi => h.cell i hi) j v hj
  rwa [Nat.zero_add] at this
theorem own_free {w : World} {g : Nat} {xs : List El} (h : OwnAt w g 0 xs) (j : Nat) (hj : j < xs.length * 4) : w.frozen? ⟨g, j, none⟩ = false := by
  have := h.free (j / 4) (j % 4) (by omega) (Nat.mod_lt _ (by decide))
  rwa [show 0 + j / 4 * Flat.sz El + j % 4 = j by show 0 + j / 4 * 4 + j % 4 = j; omega] at this
theorem own_some {w : World} {g : Nat} {xs : List El} (h : OwnAt w g 0 xs) (j : Nat) (hj : j < xs.length * 4) : (w.cell? ⟨g, j, none⟩).isSome = true := by
  have hl : j < (xs.flatMap (Flat.cells (α := El))).length := by rw [flat_len]; exact hj
  rw [own_cells h j _ (List.getElem?_eq_getElem hl)]
  rfl
/-- Behind the move of the elements from i + 1 on by one place, and the clearing of the last place. -/
theorem del_own {w : World} {g i d : Nat} {xs : List El} (h : OwnAt w g 0 xs) (hn : xs.length = i + 1 + d) :
    OwnAt ((w.setCells g (i * 4) ((xs.drop (i + 1)).flatMap Flat.cells)).setCells g ((i + d) * 4) elZero) g 0 (xs.eraseIdx i) := by
  have hdl : (xs.drop (i + 1)).length = d := by rw [List.length_drop]; omega
  have hfl : ((xs.drop (i + 1)).flatMap (Flat.cells (α := El))).length = d * 4 := by rw [flat_len, hdl]; rfl
  have hel : (xs.eraseIdx i).length = i + d := by rw [List.length_eraseIdx, if_pos (by omega)]; omega
  refine own_of_cells (fun j v hj => ?_) (fun j hj => ?_)
  · have hjl : j < (i + d) * 4 := by
      have := (List.getElem?_eq_some_iff.1 hj).1
      rw [flat_len, hel] at this
      exact this
    rw [World.cell?_setCells_out g elZero _ _ ⟨g, j, none⟩ (fun _ _ => .inl hjl)]
    have hei : xs.eraseIdx i = xs.take i ++ xs.drop (i + 1) := List.eraseIdx_eq_take_drop_succ xs i
    rw [hei, List.flatMap_append] at hj
    have htl : ((xs.take i).flatMap (Flat.cells (α := El))).length = i * 4 := by rw [flat_len, List.length_take, Nat.min_eq_left (by omega)]; rfl
    rcases Nat.lt_or_ge j (i * 4) with hlt | hge
    · rw [World.cell?_setCells_out g _ _ _ ⟨g, j, none⟩ (fun _ _ => .inl hlt)]
      rw [List.getElem?_append_left (by rw [htl]; exact hlt)] at hj
      refine own_cells h j v ?_
      rw [← hj]
      have : xs = xs.take i ++ xs.drop i := (List.take_append_drop i xs).symm
      conv => lhs; rw [this, List.flatMap_append]
      rw [List.getElem?_append_left (by rw [htl]; exact hlt)]
    · rw [List.getElem?_append_right (by rw [htl]; exact hge), htl] at hj
      have hjr : j - i * 4 < ((xs.drop (i + 1)).flatMap (Flat.cells (α := El))).length := by rw [hfl]; omega
      have hin := World.cell?_setCells_in g ((xs.drop (i + 1)).flatMap Flat.cells) (i * 4) w (fun m hm => own_some h _ (by rw [hfl] at hm; omega)) (j - i * 4) hjr
      rw [show i * 4 + (j - i * 4) = j by omega] at hin
      rw [hin, ← hj, List.getElem?_eq_getElem hjr]
  · rw [hel] at hj
    rw [World.frozen?_setCells, World.frozen?_setCells]
    exact own_free h j (by omega)
theorem drop_cells {w : World} {g : Nat} {xs : List El} (h : OwnAt w g 0 xs) (k : Nat) : ∀ j u, ((xs.drop k).flatMap Flat.cells)[j]? = some u → w.cell? ((⟨g, k * 4, none⟩ : Addr).add j) = some u := fun j u hj => by
  have hadd : (⟨g, k * 4, none⟩ : Addr).add j = ⟨g, k * 4 + j, none⟩ := by
    unfold Addr.add
    by_cases e : j = 0 <;> simp [e]
  rw [hadd]
  have hl : j < (xs.drop k).length * 4 := by
    have := (List.getElem?_eq_some_iff.1 hj).1
    rw [flat_len] at this
    exact this
  rw [List.length_drop] at hl
  refine own_cells h _ _ ?_
  rw [← hj]
  have htl : ((xs.take k).flatMap (Flat.cells (α := El))).length = k * 4 := by rw [flat_len, List.length_take, Nat.min_eq_left (by omega)]; rfl
  have : xs = xs.take k ++ xs.drop k := (List.take_append_drop k xs).symm
  conv => lhs; rw [this, List.flatMap_append]
  rw [List.getElem?_append_right (by rw [htl]; omega), htl]
  congr 1
  omega
set_option maxHeartbeats 1000000 in
theorem delete_any (g cap i d : Nat) (xs : List El) (w : World) (h : OwnAt w g 0 xs) (hn : xs.length = i + 1 + d) (hc : i + 1 + d ≤ cap) (hm : cap ≤ 9223372036854775807) (hd : i + 1 + d ≤ 1048576) :
    Calls Tryd.prog 48 #[.slice (some ⟨g, 0, none⟩) (i + 1 + d) cap, .int .i64 i, .int .i64 ((i : Int) + 1)] w fun e w' => e = .returned (.slice (some ⟨g, 0, none⟩) (i + d) cap) ∧ OwnAt w' g 0 (xs.eraseIdx i) ∧ Only (fun k => k = g) w w' := by
  obtain ⟨i0, hi, hz0, hz1, hz2⟩ := info_parts Tryd.infoEl
  have HZ := Lib.hid (And.intro hi (And.intro hz0 (And.intro hz1 hz2)))
  have HO := Lib.hid h
  have HN := Lib.hid hn
  clear hi hz0 hz1 hz2 h hn
  go_enter Tryd.func48, Tryd.ntmps48
  have q0 : (0 : Int) ≤ (i : Int) := by omega
  have q1 : (i : Int) ≤ (cap : Int) := by omega
  have q2 : (0 : Int) ≤ (i : Int) + 1 := by omega
  have q3 : (i : Int) + 1 ≤ (i : Int) + 1 + (d : Int) := by omega
  have q4 : (i : Int) + 1 + (d : Int) ≤ (cap : Int) := by omega
  have q5 : ((i : Int) + 1).toNat = i + 1 := by omega
  have q6 : ((i : Int) + 1 + (d : Int)).toNat = i + 1 + d := by omega
  have q7 : i + 1 + d - (i + 1) = d := by omega
  have HFL := Lib.hid (show ((xs.drop (i + 1)).flatMap (Flat.cells (α := El))).length = d * 4 by rw [flat_len, List.length_drop, HN.out, q7]; rfl)
  have HSP := Lib.hid (show ∀ j, j < ((xs.drop (i + 1)).flatMap (Flat.cells (α := El))).length → (w.drew.cell? ⟨g, 0 + i * 4 + j, none⟩).isSome = true ∧ w.drew.frozen? ⟨g, 0 + i * 4 + j, none⟩ = false from fun j hj => by
    rw [HFL.out] at hj
    exact ⟨own_some HO.out _ (by rw [HN.out]; omega), own_free HO.out _ (by rw [HN.out]; omega)⟩)
  generalize hW : w.drew.setCells g (i * 4) ((xs.drop (i + 1)).flatMap Flat.cells) = W at *
  have HK := Lib.hid (show Only (fun k => k = g) w W by rw [← hW]; exact only_cells (S := fun k => k = g) (g := g) rfl _ _ _ _ (Only.of_below (below_drewn w) (Nat.le_refl _)))
  have HCS := Lib.hid (show ∀ j, j < 4 → (W.cell? ⟨g, (i + d) * 4 + j, none⟩).isSome = true by
    rw [← hW]
    intro j hj
    exact World.isSome_setCells g _ _ _ _ (own_some HO.out ((i + d) * 4 + j) (by rw [HN.out]; omega)))
  have HCF := Lib.hid (show ∀ j, j < 4 → W.frozen? ⟨g, (i + d) * 4 + j, none⟩ = false by
    rw [← hW]
    intro j hj
    rw [World.frozen?_setCells]
    exact own_free HO.out ((i + d) * 4 + j) (by rw [HN.out]; omega))
  have HRES := Lib.hid (show OwnAt (W.setCells g ((i + d) * 4) elZero) g 0 (xs.eraseIdx i) by
    rw [← hW]
    exact del_own (w := w.drew) (HO.out.block rfl) HN.out)
  have HWE := Lib.hid hW
  clear hW
  have r1 : (0 : Int) ≤ (i : Int) + (d : Int) := by omega
  have r2 : (i : Int) + (d : Int) ≤ (i : Int) + 1 + (d : Int) := by omega
  have r3 : i + 1 + d - (i + d) = 1 := by omega
  have q8 : (i : Int) ≤ (i : Int) + 1 := by omega
  by_cases hcap : cap = i + 1
  · obtain rfl : d = 0 := by omega
    subst hcap
    go_wp2
    go_region_law (refine step_append_room (by rfl) (.tmp 22) (.tmp 25) 29 (by rfl) 72 i0 4 Tryd.underlying29 HZ.out.1 HZ.out.2.2.1 g 0 i (i + 1) (by rfl) ⟨g, 0, none⟩ 0 0 ((xs.drop (i + 1)).flatMap Flat.cells) (by rfl) HFL.out (fun j u hj => by have h1 := (List.getElem?_eq_some_iff.1 hj).1; have h2 := HFL.out; omega) (el_one _) (by omega) HSP.out ?_)
    rw [HWE.out]
    iterate 19 (first | go_step | go_upon | go_simp)
    refine wpList_clear_run _ rfl (.tmp 31) 29 rfl (.slice (some ⟨g, i * 4, none⟩) 1 1) rfl (run_clear_el _ 29 72 _ Tryd.underlying29 Tryd.zeroValue72 g (i * 4) _ HCS.out HCF.out) ?_
    go_wp2
    go_ret
    exact ⟨rfl, HRES.out, only_cells (S := fun k => k = g) (g := g) rfl _ _ _ _ HK.out⟩
  · go_wp2
    go_region_law (refine step_append_room (by rfl) (.tmp 22) (.tmp 25) 29 (by rfl) 72 i0 4 Tryd.underlying29 HZ.out.1 HZ.out.2.2.1 g 0 i cap (by rfl) ⟨g, (i + 1) * 4, none⟩ d (cap - (i + 1)) ((xs.drop (i + 1)).flatMap Flat.cells) (by rfl) HFL.out (drop_cells HO.out (i + 1)) (el_one _) (by omega) HSP.out ?_)
    rw [HWE.out]
    iterate 19 (first | go_step | go_upon | go_simp)
    rw [r3]
    refine wpList_clear_run _ rfl (.tmp 31) 29 rfl (.slice (some ⟨g, (i + d) * 4, none⟩) 1 (cap - (i + d))) rfl (run_clear_el _ 29 72 _ Tryd.underlying29 Tryd.zeroValue72 g ((i + d) * 4) _ HCS.out HCF.out) ?_
    go_wp2
    go_ret
    exact ⟨rfl, HRES.out, only_cells (S := fun k => k = g) (g := g) rfl _ _ _ _ HK.out⟩
end Go.Proofs.YtnmnenbmiealbaaDoor
