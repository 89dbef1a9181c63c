/- The program's own table of bounds: what its reading says of its cells. -/
import Derived.Test.YtocjkhfghldnnaaDoorFlat
import Derived.Test.YtocjkhfghldnnaaDoorOpen
import Derived.MakeChecks
import Derived.WalkSmall
import Derived.Lib.LaidTab
namespace Go.Proofs.YtocjkhfghldnnaaDoor
open Go.ChangeShapes Go.WideShapes Go.ChangeAt Go.RowKit Go.Deep
set_option linter.unusedVariables false

instance : Flat (Int × Int) where
  default := (0, 0)
  sz := 2
  cells := fun x => [.int .i64 x.1, .int .i64 x.2]
  len := fun _ => rfl
def pairData {H : Type} (x : Int × Int) : DataW H := .agg [.lit (.int .i64 x.1), .lit (.int .i64 x.2)]
theorem pair_cells {H : Type} {enc : TypeId × Value → H} {P : Program} {w : World} {base : Nat} {sp : Nat → Bool} {held : Bool} {fuel : Nat} {e : TypeId} {fs : Array Field} {cs : List Value} {p : List MemPlace} {x : Int × Int}
    (he : P.underlying e = some (.struct fs)) (hone : oneCellFields P fs = true) (hfs : fs.size = 2) (hty : ∀ (j : Nat) (f : Field), fs[j]? = some f → P.underlying f.type = some (.int .i64)) (hC : P.cellsOf e = 2)
    (h : DataW.trod enc P w base sp held fuel e cs = some (pairData x, p)) : cs = Flat.cells x := by
  obtain ⟨ys, n, _, hx, hl, hyl, hg⟩ := DataW.trod_struct he h
  rw [hC] at hl
  match cs, hl with
  | [c0, c1], _ =>
    have hd : pairData x = .agg (ys.map (·.1)) := (Prod.mk.inj hx).1
    obtain ⟨y0, y1, rfl⟩ : ∃ y0 y1, ys = [y0, y1] := by
      match ys, hyl.trans hfs with
      | [a, b], _ => exact ⟨a, b, rfl⟩
    obtain ⟨f0, e0⟩ : ∃ f, fs[0]? = some f := ⟨fs[0], Array.getElem?_eq_getElem (by omega)⟩
    obtain ⟨f1, e1⟩ : ∃ f, fs[1]? = some f := ⟨fs[1], Array.getElem?_eq_getElem (by omega)⟩
    have h0 : _ = some y0 := hg 0 f0 e0
    have h1 : _ = some y1 := hg 1 f1 e1
    rw [(hone_of hone 0 f0 e0).1, (hone_of hone 0 f0 e0).2] at h0
    rw [(hone_of hone 1 f1 e1).1, (hone_of hone 1 f1 e1).2] at h1
    obtain ⟨n0, hc0, hx0, _⟩ := DataW.trod_int (hty 0 f0 e0) h0
    obtain ⟨n1, hc1, hx1, _⟩ := DataW.trod_int (hty 1 f1 e1) h1
    unfold pairData at hd
    simp at hd hc0 hc1 hx0 hx1
    obtain ⟨hd0, hd1⟩ := hd
    rw [hc0, hc1]
    rw [hx0] at hd0
    rw [hx1] at hd1
    injection hd0 with hd0
    injection hd1 with hd1
    injection hd0 with _ hd0
    injection hd1 with _ hd1
    show _ = [Value.int .i64 x.1, Value.int .i64 x.2]
    rw [hd0, hd1]
theorem pairs_cells {H : Type} {enc : TypeId × Value → H} {P : Program} {w : World} {base : Nat} {sp : Nat → Bool} {held : Bool} {fuel n : Nat} {t e : TypeId} {fs : Array Field} {cs : List Value} {p : List MemPlace} {rows : List (Int × Int)}
    (ht : P.underlying t = some (.array n e)) (he : P.underlying e = some (.struct fs)) (hone : oneCellFields P fs = true) (hfs : fs.size = 2) (hty : ∀ (j : Nat) (f : Field), fs[j]? = some f → P.underlying f.type = some (.int .i64)) (hC : P.cellsOf e = 2) (hCt : P.cellsOf t = n * 2)
    (h : DataW.trod enc P w base sp held fuel t cs = some (.agg (rows.map pairData), p)) : cs = rows.flatMap Flat.cells := by
  obtain ⟨xs, m, _, hx, hl, hxl, hi⟩ := DataW.trod_array ht h
  have hd : rows.map pairData = xs.map (·.1) := by
    have := (Prod.mk.inj hx).1
    injection this
  have hrl : rows.length = n := by
    have := congrArg List.length hd
    simp at this
    omega
  rw [hCt] at hl
  apply List.ext_getElem?
  intro q
  rcases Nat.lt_or_ge q (n * 2) with hq | hq
  · have hdm := Nat.div_add_mod q 2
    have hm2 := Nat.mod_lt q (show 0 < 2 by decide)
    have hqi : q / 2 < n := by omega
    have h1 := hi (q / 2) hqi
    have h2 : (rows.map (pairData (H := H)))[q / 2]? = (xs.map (·.1))[q / 2]? := by rw [hd]
    rw [List.getElem?_map, List.getElem?_map, it_get rows (q / 2) (by omega), ← h1, hC] at h2
    rcases hD : DataW.trod enc P w base sp held m e ((cs.drop (q / 2 * 2)).take 2) with _ | ⟨d, pp⟩
    · rw [hC, hD] at h1
      rw [List.getElem?_eq_getElem (by omega)] at h1
      cases h1
    · rw [hD] at h2
      simp at h2
      rw [← h2] at hD
      have hc := pair_cells he hone hfs hty hC hD
      have e1 : cs[q]? = ((cs.drop (q / 2 * 2)).take 2)[q % 2]? := by
        rw [List.getElem?_take, if_pos hm2, List.getElem?_drop]
        congr 1
        omega
      have e2 := flat_get rows (q / 2) (q % 2) (by omega) hm2
      rw [show q / 2 * Flat.sz (Int × Int) + q % 2 = q by show q / 2 * 2 + q % 2 = q; omega] at e2
      rw [e1, hc, e2]
  · rw [List.getElem?_eq_none (by omega), List.getElem?_eq_none (by rw [flat_len]; show rows.length * 2 ≤ q; omega)]

theorem gBound : Tryd.prog.globalNamed "loop.example/g00912/impl.codeBounds" = some 0 := by kernel_rfl
theorem gBoundType : (Tryd.prog.globals[0]?).map (·.type) = some 83 := by kernel_rfl
def boundRows : List (Int × Int) := [(0, 4), (0, 4), (1, 2000), (0, 9), (1, 3), (0, 20), (50, 100), (0, 500), (1, 200)]
def boundCells : List Value := boundRows.flatMap Flat.cells
/-- The table of bounds holds what it is laid with. -/
structure Tab (w : World) : Prop where
  lt : 0 < w.heap.size
  var : w.var? Tryd.prog "loop.example/g00912/impl.codeBounds" = some boundCells.toArray
theorem Tab.below {w w' : World} {B : Nat} (h : Tab w) (hb : Below B w w') (hB : w.heap.size ≤ B) : Tab w' := ⟨Nat.lt_of_lt_of_le h.lt hb.size, var?_below hb gBound (Nat.lt_of_lt_of_le h.lt hB) h.var⟩
theorem Tab.next {w w' : World} (h : Tab w) (hb : Below w.heap.size w w') : Tab w' := h.below hb (Nat.le_refl _)
theorem Tab.cell {w : World} (h : Tab w) (i : Nat) {v : Value} (hv : boundCells[i]? = some v) : w.cell? ⟨0, i, none⟩ = some v := by
  rw [World.var?_cell gBound h.var i, List.getElem?_toArray]
  exact hv
theorem var_lt {P : Program} {w : World} {n : String} {g : Nat} {cs : Array Value} (hg : P.globalNamed n = some g) (h : w.var? P n = some cs) : g < w.heap.size := by
  unfold World.var? at h
  simp only [hg, Option.bind_some] at h
  rcases Nat.lt_or_ge g w.heap.size with h1 | h1
  · exact h1
  · rw [Array.getElem?_eq_none h1] at h
    cases h
theorem tab_read {H : Type} {enc : TypeId × Value → H} {w : World} {sp : Nat → Bool} {held : Bool} {fuel : Nat} {cs : Array Value} {p : List MemPlace}
    (hv : w.var? Tryd.prog "loop.example/g00912/impl.codeBounds" = some cs) (hd : DataW.trod enc Tryd.prog w 0 sp held fuel 83 cs.toList = some (.agg (boundRows.map pairData), p)) : Tab w := by
  have := pairs_cells Tryd.underlying83 Tryd.underlying82 (by kernel_rfl) rfl (fun j f hj => by
    match j, hj with
    | 0, hj => rw [← Option.some.inj hj]; exact Tryd.underlying3
    | 1, hj => rw [← Option.some.inj hj]; exact Tryd.underlying3) (by kernel_rfl) (by kernel_rfl) hd
  refine ⟨var_lt gBound hv, ?_⟩
  rw [hv]
  congr 1
  apply Array.ext'
  rw [this]
  rfl
end Go.Proofs.YtocjkhfghldnnaaDoor
