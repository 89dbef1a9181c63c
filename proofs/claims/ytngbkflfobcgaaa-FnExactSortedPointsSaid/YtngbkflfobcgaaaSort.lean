/- slices.SortFunc with the program's own comparison: the row holds the numbers in descending order. -/
import Derived.Test.YtngbkflfobcgaaaShelf
import Derived.Test.YtngbkflfobcgaaaSortM
import Derived.Test.YtngbkflfobcgaaaOwn
namespace Go.Proofs.Ytngbkflfobcgaaa
open Go.ChangeShapes Go.WideShapes Go.ChangeAt Go.RowKit Go.Shelf Go.Lib
set_option linter.unusedVariables false

/-- Points. -/
abbrev Pt := { x : Int // -1000000 ≤ x ∧ x ≤ 1000000 }
instance : Inhabited Pt := ⟨⟨0, by omega, by omega⟩⟩
def encP (p : Pt) : Value := .int .i64 p.1
def cfP (x y : Pt) : Int := y.1 - x.1
theorem ltP (x y : Pt) : ltOf cfP x y = decide (y.1 < x.1) := by
  unfold ltOf cfP
  rw [Bool.eq_iff_iff]
  simp only [decide_eq_true_eq]
  omega
theorem swoP : Sort.SWO (ltOf cfP) where
  irrefl x := by rw [ltP]; simp
  trans x y z h1 h2 := by rw [ltP] at *; simp at *; omega
  ntrans x y z h1 h2 := by rw [ltP] at *; simp at *; omega

theorem cmpClosure (x y : Pt) (W : World) : Calls Try.prog 52 #[encP x, encP y] W fun e w' => e = .returned (.int .i64 (cfP x y)) ∧ ∃ q, w' = W.drewN q := by
  obtain ⟨x, h1, h2⟩ := x
  obtain ⟨y, h3, h4⟩ := y
  unfold encP cfP
  go_enter Try.func52, Try.ntmps52
  go_wp2
  go_ret
  exact ⟨rfl, 0, rfl⟩

def toPt (x : Int) : Pt := if h : -1000000 ≤ x ∧ x ≤ 1000000 then ⟨x, h⟩ else default
theorem toPt_val {x : Int} (h : -1000000 ≤ x ∧ x ≤ 1000000) : (toPt x).1 = x := by unfold toPt; rw [dif_pos h]
def ptArr (xs : List Int) : Array Pt := (xs.map toPt).toArray
theorem ptArr_size (xs : List Int) : (ptArr xs).size = xs.length := by simp [ptArr]
theorem ptArr_get (xs : List Int) (i : Nat) (h : i < xs.length) (hb : -1000000 ≤ ix xs i ∧ ix xs i ≤ 1000000) : encP (ptArr xs)[i]! = .int .i64 (ix xs i) := by
  have e : (ptArr xs)[i]! = toPt (ix xs i) := by
    simp [ptArr, getElem!_pos, h, ix, List.getD_eq_getElem?_getD]
  rw [e]
  unfold encP
  rw [toPt_val hb]

/-- The cells of a row at a block's head hold xs, and may be written. -/
def RowAt (w : World) (g : Nat) (xs : List Int) : Prop := ∀ i, i < xs.length → w.cell? ⟨g, i, none⟩ = some (.int .i64 (ix xs i)) ∧ w.frozen? ⟨g, i, none⟩ = false

theorem vals_perm {xs : List Int} (hb : ∀ i, i < xs.length → -1000000 ≤ ix xs i ∧ ix xs i ≤ 1000000) : (ptArr xs).toList.map (·.1) = xs := by
  apply List.ext_getElem?
  intro i
  rcases Nat.lt_or_ge i xs.length with h | h
  · have := hb i h
    have e : ix xs i = xs[i] := by simp [ix, List.getD_eq_getElem?_getD, h]
    rw [e] at this
    simp [ptArr, h, toPt_val this]
  · rw [List.getElem?_eq_none (by simp [ptArr]; omega), List.getElem?_eq_none h]

theorem heap_mapBlock (w : World) (b k : Nat) (f : Array Value → Array Value) (h : k ≠ b) : (Sort.mapBlock w b f).heap[k]? = w.heap[k]? := by
  unfold Sort.mapBlock
  simp only [Array.getElem?_modify]
  rw [if_neg (by omega)]

theorem sortFunc_any (g c : Nat) (xs : List Int) (w : World) (hb : ∀ i, i < xs.length → -1000000 ≤ ix xs i ∧ ix xs i ≤ 1000000) (hl : xs.length ≤ 1048576) (hr : RowAt w g xs) (hg : g < w.heap.size) :
    Calls Try.prog 51 #[.slice (some ⟨g, 0, none⟩) xs.length c, .func (.func 52) #[] #[]] w fun e w' => e = .returned (.tuple #[]) ∧ ∃ ys, SortedOf xs ys ∧ RowAt w' g ys ∧ Below g w w' := by
  have eg : ∀ args w, (callFunc 52 args).run Try.prog w = .ok (.enter 52 args) w := enters_of Try.func52 (by kernel_rfl) rfl
  have hH : Sort.Holds encP w g 0 (ptArr xs) := fun j hj => by
    rw [ptArr_size] at hj
    rw [Nat.zero_add, ptArr_get xs j hj (hb j hj)]
    exact hr j hj
  have hcon := Any.slices_SortFunc Try.sortInt encP (fun _ => rfl) cfP swoP 52 #[] g 0 c (ptArr xs) w eg (CmpReads.lays (fun _ _ _ _ x y => cmpClosure x y _)) hH hg (by rw [ptArr_size]; omega)
  rw [ptArr_size] at hcon
  change Calls Try.prog 51 _ _ _ at hcon
  refine hcon.mono ?_
  rintro e w' ⟨rfl, d', n, os, hp, hs, rfl⟩
  have hsz : d'.size = xs.length := hp.1.trans (ptArr_size xs)
  have hperm : d'.toList.Perm (ptArr xs).toList := by
    have := hp.2.2
    rwa [Array.extract_eq_self_of_le (by omega), Array.extract_eq_self_of_le (by rw [ptArr_size]; omega)] at this
  have hlen : (d'.toList.map (·.1)).length = xs.length := by simp [hsz]
  have hix : ∀ i, i < xs.length → ix (d'.toList.map (·.1)) i = (d'[i]!).1 := fun i hi => by
    simp [ix, List.getD_eq_getElem?_getD, getElem!_pos, hsz, hi]
  refine ⟨rfl, d'.toList.map (·.1), ⟨?_, ?_⟩, fun i hi => ?_, ?_⟩
  · have := hperm.map (·.1)
    rwa [vals_perm hb] at this
  · rw [List.pairwise_iff_getElem]
    intro i j hi hj hij
    rw [hlen] at hi hj
    have := hs i j (Nat.zero_le _) hij hj
    rw [ltP] at this
    simp only [decide_eq_false_iff_not] at this
    simp only [List.getElem_map, Array.getElem_toList]
    rw [getElem!_pos d' i (by omega), getElem!_pos d' j (by omega)] at this
    omega
  · rw [hlen] at hi
    have h1 := Sort.cell?_putRow encP (Sort.ahead w n) g 0 (ptArr xs) d' hH hp.1 i (by omega)
    rw [Nat.zero_add] at h1
    unfold sortWorld
    rw [Sort.cell?_grow _ _ _ (by simpa using hg), Sort.frozen?_grow _ _ _ (by simpa using hg), h1, Sort.frozen?_putRow, hix i hi]
    exact ⟨rfl, (hr i hi).2⟩
  · unfold sortWorld
    refine ⟨rfl, rfl, rfl, by simp, fun k hk => ?_⟩
    rw [Sort.heap_grow_old _ _ (by simp; omega)]
    unfold Sort.putRow
    rw [heap_mapBlock _ _ _ _ (by omega)]
    rfl
end Go.Proofs.Ytngbkflfobcgaaa
