/- slices.Insert of one element, walked through the library's own text. -/
import Derived.Test.YtmncigeelfappaaDoorCdY
import Derived.Lib.Overlaps
import Derived.Lib.AppendZeros
import Derived.Lib.AppendZerosOnto
import Derived.Laws.Externs
import Derived.Shelf.RegionOpenPlain
namespace Go.Proofs.YtmncigeelfappaaDoor
open Go.ChangeShapes Go.WideShapes Go.ChangeAt Go.RowKit Go.PlainAid Go.Sort
set_option linter.unusedVariables false

theorem run_copyN {P : Program} (w : World) (dT sT ty elem : TypeId) (b o dLen dCap : Nat) (a : Addr) (sLen sCap : Nat) (cs : List Value) (size m : Nat)
    (hu : P.underlying dT = some (.slice elem)) (i : TypeInfo) (hq : P.info? elem = some i) (hi : i.size = size) (hm : Nat.min sLen dLen = m) (hn : cs.length = m * size)
    (hsrc : ∀ j v, cs[j]? = some v → w.cell? (a.add j) = some v) (hc : ∀ j, j < cs.length → (w.cell? ⟨b, o + j, none⟩).isSome = true) (hf : ∀ j, j < cs.length → w.frozen? ⟨b, o + j, none⟩ = false) (h1 : ∀ v ∈ cs, v.oneCell' = true) :
    (Builtin.copy_ #[dT, sT] ty #[.slice (some ⟨b, o, none⟩) dLen dCap, .slice (some a) sLen sCap]).run P w = .ok (goInt m) (w.setCells b o cs) := by
  have hl := run_loadCells_list (P := P) w a cs hsrc
  have hst := run_storeCells_cells (P := P) b o cs 0 w (by simpa using hc) (by simpa using hf) h1
  rw [hn] at hl
  simp [Builtin.copy_, run_underlying hu, Builtin.lenOf, Builtin.firstCells, sizeOf, typeInfo, hq, hi, hm, hl, hst]
theorem wp_copy_runE {P : Program} (w : World) {o : Oper} {a : Act} {K : Act → World → Prop} {Q : Exit → Act → World → Prop} (d s : Operand) (t t' : TypeId)
    (ho : o.op = .call { callee := .builtin .copy, args := #[d, s], argTypes := #[t, t'] }) (v u : Value) (hd : a.eval d = v) (hs : a.eval s = u) {v' : Value} {w' : World}
    (hr : (Builtin.copy_ #[t, t'] o.type #[v, u]).run P w = .ok v' w') (h : K (a.put o.dst v') w') : o.wp P a w K Q := by
  unfold Oper.wp execOp
  simp only [ho, resolve, invoke, builtin, Sem.run_bind, Sem.run_pure, Result.andThen_ok, List.map_toArray, List.map_cons, List.map_nil, hd, hs, hr]
  exact h
theorem wpList_copy_runE {P : Program} (w : World) {ops : Array Oper} {rest : List Oper} {o : Oper} {a : Act} {Q : Exit → Act → World → Prop} (hgd : o.guard = none) (d s : Operand) (t t' : TypeId)
    (ho : o.op = .call { callee := .builtin .copy, args := #[d, s], argTypes := #[t, t'] }) (v u : Value) (hd : a.eval d = v) (hs : a.eval s = u) {v' : Value} {w' : World}
    (hr : (Builtin.copy_ #[t, t'] o.type #[v, u]).run P w = .ok v' w') (h : wpList P ops Q rest (a.put o.dst v') w') : wpList P ops Q (o :: rest) a w :=
  wpList_plain hgd fun _ hK => wp_copy_runE w d s t t' ho v u hd hs hr (hK _ _ h)
theorem step_copy_runE {P : Program} {ops : Array Oper} {o : Oper} {a : Act} {w : World} {K : Act → World → Prop} {Q : Exit → Act → World → Prop} {E : Prop}
    (hg : o.guard = none) (d x : Operand) (dT sT : TypeId) (hop : o.op = Op.call { callee := Callee.builtin Builtin.copy, args := #[d, x], argTypes := #[dT, sT] })
    (v u : Value) (hd : a.eval d = v) (hx : a.eval x = u) {v' : Value} {w' : World} (hr : (Builtin.copy_ #[dT, sT] o.type #[v, u]).run P w = .ok v' w') (hK : K (a.put o.dst v') w') :
    if Region.wanted o (yielded ops a.tmps) = true then Oper.wp P o a w K Q else E := by
  have hw : Region.wanted o (yielded ops a.tmps) = true := by simp [Region.wanted, hg]
  rw [if_pos hw]
  unfold Oper.wp
  simp [execOp, hop, resolve, invoke, builtin, hd, hx, hr, Result.andThen]
  exact hK
theorem isSome_setCellsE (b : Nat) (vs : List Value) (o : Nat) (w : World) (h : ∀ j, j < vs.length → (w.cell? ⟨b, o + j, none⟩).isSome = true) (k : Nat) (hk : (w.cell? ⟨b, k, none⟩).isSome = true) : ((w.setCells b o vs).cell? ⟨b, k, none⟩).isSome = true := by
  by_cases hin : o ≤ k ∧ k < o + vs.length
  · have := World.cell?_setCells_in b vs o w h (k - o) (by omega)
    rw [show o + (k - o) = k by omega] at this
    rw [this]; rfl
  · rw [World.cell?_setCells_out b vs o w ⟨b, k, none⟩ (fun _ _ => by show k < o ∨ o + vs.length ≤ k; omega)]
    exact hk

theorem drew_setCells (b : Nat) : ∀ (vs : List Value) (o : Nat) (w : World), (w.setCells b o vs).drew = w.drew.setCells b o vs
  | [], _, _ => rfl
  | v :: r, o, w => by rw [World.setCells, World.setCells, drew_setCells b r]; rfl
/-- The list with one more element at place i. -/
def insEl (xs : List El) (i : Nat) (x : El) : List El := xs.take i ++ x :: xs.drop i
theorem insEl_len (xs : List El) (i : Nat) (x : El) (hi : i ≤ xs.length) : (insEl xs i x).length = xs.length + 1 := by
  unfold insEl
  rw [List.length_append, List.length_cons, List.length_take, List.length_drop]
  omega
theorem insEl_cells (xs : List El) (i : Nat) (x : El) : (insEl xs i x).flatMap (Flat.cells (α := El)) = (xs.take i).flatMap Flat.cells ++ (Flat.cells x ++ (xs.drop i).flatMap Flat.cells) := by
  unfold insEl
  rw [List.flatMap_append, List.flatMap_cons]

/-- A block of plain cells. -/
structure Plain (w : World) (g : Nat) (n : Nat) : Prop where
  row : ∃ cur, w.heap[g]? = some (.cells cur 49 (0, 0)) ∧ cur.size = n
theorem Plain.shape {w : World} {g n : Nat} (h : Plain w g n) : w.shape? g = some (49, n) := by
  obtain ⟨cur, he, hn⟩ := h.row
  unfold World.shape?
  rw [he, ← hn]
theorem Plain.some {w : World} {g n : Nat} (h : Plain w g n) (j : Nat) (hj : j < n) : (w.cell? ⟨g, j, none⟩).isSome = true := by
  obtain ⟨cur, he, hn⟩ := h.row
  unfold World.cell?
  simp only [he]
  rw [Array.getElem?_eq_getElem (by omega)]
  rfl
theorem Plain.free {w : World} {g n : Nat} (h : Plain w g n) (j : Nat) : w.frozen? ⟨g, j, none⟩ = false := by
  obtain ⟨cur, he, hn⟩ := h.row
  unfold World.frozen?
  simp only [he]
  simp
theorem plain_row {w : World} {B g n cap : Nat} {xs : List El} (h : ElRow w B g n cap xs) : Plain w g (cap * 4) := by
  rcases h.1.2 with ⟨hv, _⟩ | ⟨g', cap', cur, hv, _, hc, _, _, hs, _⟩
  · cases hv
  · injection hv with hg _ hcap
    obtain rfl : g = g' := by
      injection hg with hg
      injection hg
    exact ⟨cur, hc, by rw [hs, hcap]⟩
theorem ins_own {W : World} {g i : Nat} {xs : List El} {x : El} (hi : i ≤ xs.length) (h1 : ∀ j v, ((xs.take i).flatMap (Flat.cells (α := El)))[j]? = some v → W.cell? ⟨g, j, none⟩ = some v)
    (h2 : ∀ j v, (Flat.cells x)[j]? = some v → W.cell? ⟨g, i * 4 + j, none⟩ = some v) (h3 : ∀ j v, ((xs.drop i).flatMap (Flat.cells (α := El)))[j]? = some v → W.cell? ⟨g, (i + 1) * 4 + j, none⟩ = some v)
    (hf : ∀ j, j < (xs.length + 1) * 4 → W.frozen? ⟨g, j, none⟩ = false) : OwnAt W g 0 (insEl xs i x) := by
  have htl : ((xs.take i).flatMap (Flat.cells (α := El))).length = i * 4 := by rw [flat_len, List.length_take, Nat.min_eq_left hi]; rfl
  have hxl : (Flat.cells x).length = 4 := Flat.len x
  refine own_of_cells (fun j v hj => ?_) (fun j hj => hf j (by rw [insEl_len xs i x hi] at hj; exact hj))
  rw [insEl_cells] at hj
  rcases Nat.lt_or_ge j (i * 4) with hlt | hge
  · rw [List.getElem?_append_left (by rw [htl]; exact hlt)] at hj
    exact h1 j v hj
  · rw [List.getElem?_append_right (by rw [htl]; exact hge), htl] at hj
    rcases Nat.lt_or_ge (j - i * 4) 4 with hlt | hge'
    · rw [List.getElem?_append_left (by rw [hxl]; exact hlt)] at hj
      have := h2 _ v hj
      rwa [show i * 4 + (j - i * 4) = j by omega] at this
    · rw [List.getElem?_append_right (by rw [hxl]; exact hge'), hxl] at hj
      have := h3 _ v hj
      rwa [show (i + 1) * 4 + (j - i * 4 - 4) = j by omega] at this
theorem cells_in {w : World} {g o : Nat} {vs : List Value} (h : ∀ j, j < vs.length → (w.cell? ⟨g, o + j, none⟩).isSome = true) (j : Nat) (v : Value) (hj : vs[j]? = some v) : (w.setCells g o vs).cell? ⟨g, o + j, none⟩ = some v := by
  have hl := (List.getElem?_eq_some_iff.1 hj).1
  rw [World.cell?_setCells_in g vs o w h j hl, ← hj, List.getElem?_eq_getElem hl]
/-- The move up, then the new element. -/
theorem ins_shift {w : World} {g i : Nat} {xs : List El} {x : El} (hi : i ≤ xs.length) (h : ∀ j v, ((xs.take i).flatMap (Flat.cells (α := El)))[j]? = some v → w.cell? ⟨g, j, none⟩ = some v) (hp : ∀ j, j < (xs.length + 1) * 4 → (w.cell? ⟨g, j, none⟩).isSome = true) (hf : ∀ j, w.frozen? ⟨g, j, none⟩ = false) :
    OwnAt ((w.setCells g ((i + 1) * 4) ((xs.drop i).flatMap Flat.cells)).setCells g (i * 4) (Flat.cells x)) g 0 (insEl xs i x) := by
  have htl : ((xs.take i).flatMap (Flat.cells (α := El))).length = i * 4 := by rw [flat_len, List.length_take, Nat.min_eq_left hi]; rfl
  have hdl : ((xs.drop i).flatMap (Flat.cells (α := El))).length = (xs.length - i) * 4 := by rw [flat_len, List.length_drop]; rfl
  have hxl : (Flat.cells x).length = 4 := Flat.len x
  refine ins_own hi (fun j v hj => ?_) (fun j v hj => ?_) (fun j v hj => ?_) (fun j hj => by rw [World.frozen?_setCells, World.frozen?_setCells]; exact hf j)
  · have hl := (List.getElem?_eq_some_iff.1 hj).1
    rw [World.cell?_setCells_out g _ _ _ ⟨g, j, none⟩ (fun _ _ => .inl (by show j < i * 4; omega)), World.cell?_setCells_out g _ _ _ ⟨g, j, none⟩ (fun _ _ => .inl (by show j < (i + 1) * 4; omega))]
    exact h j v hj
  · exact cells_in (fun m hm => isSome_setCellsE _ _ _ _ (fun m' hm' => hp _ (by omega)) _ (hp _ (by omega))) j v hj
  · have hl := (List.getElem?_eq_some_iff.1 hj).1
    rw [World.cell?_setCells_out g _ _ _ ⟨g, (i + 1) * 4 + j, none⟩ (fun _ _ => .inr (by show i * 4 + (Flat.cells x).length ≤ (i + 1) * 4 + j; omega))]
    exact cells_in (fun m hm => hp _ (by omega)) j v hj
/-- The new element, then what stood behind it. -/
theorem ins_grow {w : World} {g i : Nat} {xs : List El} {x : El} (hi : i ≤ xs.length) (h : ∀ j v, ((xs.take i).flatMap (Flat.cells (α := El)))[j]? = some v → w.cell? ⟨g, j, none⟩ = some v) (hp : ∀ j, j < (xs.length + 1) * 4 → (w.cell? ⟨g, j, none⟩).isSome = true) (hf : ∀ j, w.frozen? ⟨g, j, none⟩ = false) :
    OwnAt ((w.setCells g (i * 4) (Flat.cells x)).setCells g ((i + 1) * 4) ((xs.drop i).flatMap Flat.cells)) g 0 (insEl xs i x) := by
  have htl : ((xs.take i).flatMap (Flat.cells (α := El))).length = i * 4 := by rw [flat_len, List.length_take, Nat.min_eq_left hi]; rfl
  have hdl : ((xs.drop i).flatMap (Flat.cells (α := El))).length = (xs.length - i) * 4 := by rw [flat_len, List.length_drop]; rfl
  have hxl : (Flat.cells x).length = 4 := Flat.len x
  refine ins_own hi (fun j v hj => ?_) (fun j v hj => ?_) (fun j v hj => ?_) (fun j hj => by rw [World.frozen?_setCells, World.frozen?_setCells]; exact hf j)
  · have hl := (List.getElem?_eq_some_iff.1 hj).1
    rw [World.cell?_setCells_out g _ _ _ ⟨g, j, none⟩ (fun _ _ => .inl (by show j < (i + 1) * 4; omega)), World.cell?_setCells_out g _ _ _ ⟨g, j, none⟩ (fun _ _ => .inl (by show j < i * 4; omega))]
    exact h j v hj
  · have hl := (List.getElem?_eq_some_iff.1 hj).1
    rw [World.cell?_setCells_out g _ _ _ ⟨g, i * 4 + j, none⟩ (fun _ _ => .inl (by show i * 4 + j < (i + 1) * 4; omega))]
    exact cells_in (fun m hm => hp _ (by omega)) j v hj
  · exact cells_in (fun m hm => isSome_setCellsE _ _ _ _ (fun m' hm' => hp _ (by omega)) _ (hp _ (by omega))) j v hj

set_option maxHeartbeats 2000000 in
set_option maxRecDepth 100000 in
theorem insert_shift (B g cap i n vb vc : Nat) (xs : List El) (x : El) (w : World) (h : ElRow w B g n cap xs) (hi : i < n) (hroom : n + 1 ≤ cap) (hc63 : cap ≤ 9223372036854775807) (hn : n ≤ 1048576) (hv : OwnAt w vb 0 [x]) (hpv : Plain w vb 4) (hvb : vb ≠ g) :
    Calls Tryd.prog 56 #[.slice (some ⟨g, 0, none⟩) n cap, .int .i64 i, .slice (some ⟨vb, 0, none⟩) 1 vc] w fun e w' => e = .returned (.slice (some ⟨g, 0, none⟩) (n + 1) cap) ∧ OwnAt w' g 0 (insEl xs i x) ∧ Only (fun k => k = g) w w' := by
  obtain ⟨i0, hi0, hz0, hz1, hz2⟩ := info_parts Tryd.infoEl
  have hpg := plain_row h
  have hown := h.own
  have hxl : xs.length = n := h.2
  have hov : ∀ lb cb, (callFunc 71 #[.slice (some ⟨vb, 0, none⟩) 1 vc, .slice (some ⟨g, (i + 1) * 4, none⟩) lb cb]).run Tryd.prog w = .ok (.value (.bool false)) w := fun lb cb => by
    rw [run_callFunc_extern Tryd.func71 (by kernel_rfl) (by kernel_rfl) (by kernel_rfl) (e := Extern.SlicesOverlaps.overlaps #[28, 28] #[4]) (by kernel_rfl),
      Lib.run_overlaps_apart w 28 4 49 Tryd.underlying28 4 Tryd.sizeOf49 ⟨vb, 0, none⟩ ⟨g, (i + 1) * 4, none⟩ 1 vc lb cb hvb _ _ 4 (cap * 4) hpv.shape hpg.shape (by omega) (hpv.free 0) (hpv.free 4)]
    rfl
  have hdl : ((xs.drop i).flatMap (Flat.cells (α := El))).length = (n - i) * 4 := by rw [flat_len, List.length_drop, hxl]; rfl
  have hcp1 : ∀ ty dl sl dc sc, Nat.min sl dl = n - i → (Builtin.copy_ #[28, 28] ty #[.slice (some ⟨g, (i + 1) * 4, none⟩) dl dc, .slice (some ⟨g, i * 4, none⟩) sl sc]).run Tryd.prog w.drew = .ok (goInt ((n - i : Nat) : Int)) (w.drew.setCells g ((i + 1) * 4) ((xs.drop i).flatMap Flat.cells)) := fun ty dl sl dc sc hm =>
    run_copyN w.drew _ _ ty 49 g ((i + 1) * 4) dl dc ⟨g, i * 4, none⟩ sl sc _ 4 (n - i) Tryd.underlying28 i0 hi0 hz1 hm hdl (drop_cells hown i) (fun j hj => hpg.some _ (by rw [hdl] at hj; omega)) (fun j hj => hpg.free _) (el_one _)
  obtain ⟨W1, hW1⟩ : ∃ W1, W1 = w.drew.setCells g ((i + 1) * 4) ((xs.drop i).flatMap Flat.cells) := ⟨_, rfl⟩
  have hcp2 : ∀ ty dl dc, Nat.min 1 dl = 1 → (Builtin.copy_ #[28, 28] ty #[.slice (some ⟨g, i * 4, none⟩) dl dc, .slice (some ⟨vb, 0, none⟩) 1 vc]).run Tryd.prog W1 = .ok (goInt ((1 : Nat) : Int)) (W1.setCells g (i * 4) (Flat.cells x)) := fun ty dl dc hm =>
    run_copyN W1 _ _ ty 49 g (i * 4) dl dc ⟨vb, 0, none⟩ 1 vc _ 4 1 Tryd.underlying28 i0 hi0 hz1 hm (Flat.len x)
      (fun j v hj => by
        rw [add_off, hW1, World.cell?_setCells_out g _ _ _ ⟨vb, 0 + j, none⟩ (fun h _ => absurd h hvb)]
        have := hv.cell 0 (by simp) j v hj
        simpa using this)
      (fun j hj => by rw [hW1]; exact isSome_setCellsE g _ ((i + 1) * 4) w.drew (fun m hm => hpg.some ((i + 1) * 4 + m) (by rw [hdl] at hm; omega)) (i * 4 + j) (hpg.some (i * 4 + j) (by have : (Flat.cells x).length = 4 := Flat.len x; omega)))
      (fun j hj => by rw [hW1, World.frozen?_setCells]; exact hpg.free _) (fun u hu => by
        have := el_one [x] u (by simpa using hu)
        exact this)
  have HRES := Lib.hid (show OwnAt (W1.setCells g (i * 4) (Flat.cells x)) g 0 (insEl xs i x) by
    rw [hW1]
    exact ins_shift (by omega) (fun j v hj => own_cells hown j v (flat_take xs i j v hj)) (fun j hj => hpg.some j (by omega)) (fun j => hpg.free j))
  have HK := Lib.hid (show Only (fun k => k = g) w (W1.setCells g (i * 4) (Flat.cells x)) by
    rw [hW1]
    exact only_cells (S := fun k => k = g) (g := g) rfl _ _ _ _ (only_cells (S := fun k => k = g) (g := g) rfl _ _ _ _ (Only.of_below (below_drewn w) (Nat.le_refl _))))
  have HCP1 := Lib.hid hcp1
  have HCP2 := Lib.hid hcp2
  have HW1 := Lib.hid hW1
  have mixed : Tryd.prog.follows .mixedOrders = true := by kernel_rfl
  have q1 : ¬ ((i : Int) = (n : Int)) := by omega
  have q2 : (n : Int) + 1 ≤ (cap : Int) := by omega
  have q3 : (0 : Int) ≤ (n : Int) + 1 := by omega
  have q4 : ((n : Int) + 1).toNat = n + 1 := by omega
  have q5 : (0 : Int) ≤ (i : Int) + 1 := by omega
  have q6 : (i : Int) + 1 ≤ (n : Int) + 1 := by omega
  have q7 : ((i : Int) + 1).toNat = i + 1 := by omega
  have q8 : (0 : Int) ≤ (i : Int) := by omega
  have q9 : (i : Int) ≤ (n : Int) := by omega
  have q10 : (i : Int) ≤ (n : Int) + 1 := by omega
  have q11 : ¬ (cap = i + 1) := by omega
  have q12 : ¬ (cap = i) := by omega
  have q13 : IntKind.i64.wrap ((i : Int) + 1) = (i : Int) + 1 := IntWalk.i64_in _ (by omega)
  have q14 : IntKind.i64.wrap ((n : Int) + 1) = (n : Int) + 1 := IntWalk.i64_in _ (by omega)
  clear h hown hpg hpv hv hvb hdl hcp1 hcp2 hW1 hi0 hz0 hz1 hz2 hxl
  go_enter Tryd.func56, Tryd.ntmps56
  go_wp2_with (simp only [hov])
  go_region_law_o (refine step_copy_runE rfl (.tmp 73) (.tmp 76) 28 28 rfl (.slice (some ⟨g, (i + 1) * 4, none⟩) (n + 1 - (i + 1)) (cap - (i + 1))) (.slice (some ⟨g, i * 4, none⟩) (n + 1 - i) (cap - i)) (by simp [Act.eval, Act.put]) (by simp [Act.eval, Act.put]) (HCP1.out _ _ _ _ _ (by simp only [Nat.min_def]; split <;> omega)) ?_)
  rw [← HW1.out]
  have HCP2b := Lib.hid (HCP2.out 3 (n + 1 - i) (cap - i) (by simp only [Nat.min_def]; split <;> omega))
  go_wp2_with fail
  rw [HCP2b.out]
  go_wp2
  go_ret
  exact ⟨rfl, HRES.out, HK.out⟩

def elZ : Value := .agg #[.string ⟨#[]⟩, .int .i64 0, .int .i64 0, .int .i64 0]
theorem zc_size (k : Nat) : (Builtin.zeroCells elZ.cells k).size = k * 4 := by
  simp [Builtin.zeroCells, elZ, Value.cells]
set_option maxHeartbeats 2000000 in
set_option maxRecDepth 100000 in
theorem insert_grow (B g cap i n vb vc : Nat) (xs : List El) (x : El) (w : World) (h : ElRow w B g n cap xs) (hi : i < n) (hroom : ¬ n + 1 ≤ cap) (hn : n ≤ 1048576) (hv : OwnAt w vb 0 [x]) (hvl : vb < w.heap.size) :
    Calls Tryd.prog 56 #[.slice (some ⟨g, 0, none⟩) n cap, .int .i64 i, .slice (some ⟨vb, 0, none⟩) 1 vc] w fun e w' => ∃ G, e = .returned (.slice (some ⟨w.heap.size, 0, none⟩) (n + 1) G) ∧ n + 1 ≤ G ∧ OwnAt w' w.heap.size 0 (insEl xs i x) ∧ Below w.heap.size w w' ∧ w.heap.size < w'.heap.size := by
  obtain ⟨i0, hi0, hz0, hz1, hz2⟩ := info_parts Tryd.infoEl
  have hown := h.own
  have hgl := h.lt
  have hcap := h.caps.1
  have hxl : xs.length = n := h.2
  have htl : ((xs.take i).flatMap (Flat.cells (α := El))).length = i * 4 := by rw [flat_len, List.length_take, Nat.min_eq_left (by omega)]; rfl
  have hdl : ((xs.drop i).flatMap (Flat.cells (α := El))).length = (n - i) * 4 := by rw [flat_len, List.length_drop, hxl]; rfl
  have hkk : (n : Int) + 1 - (i : Int) = ((n + 1 - i : Nat) : Int) := by omega
  have hik : i + (n + 1 - i) = n + 1 := by omega
  have hold : (Builtin.firstCells i0.size i (.slice (some ⟨g, 0, none⟩) i cap)).run Tryd.prog w.drew = .ok ((xs.take i).flatMap (Flat.cells (α := El))).toArray w.drew := by
    rw [hz1]
    exact run_firstCells_some w.drew 4 i ⟨g, 0, none⟩ i cap _ htl (fun j v hj => by
      rw [add_off, Nat.zero_add]
      exact own_cells hown j v (flat_take xs i j v hj))
  have hrz : ∀ ty, (Builtin.append_ #[28, 3] ty #[.slice (some ⟨g, 0, none⟩) i cap, .int .i64 ((n : Int) + 1 - (i : Int))]).run Tryd.prog w =
      .ok (.slice (some ⟨w.heap.size, 0, none⟩) (n + 1) (grownCap w (n + 1) cap 49)) (w.drew.alloc (.cells (((xs.take i).flatMap (Flat.cells (α := El))).toArray ++ Builtin.zeroCells elZ.cells (n + 1 - i) ++ Builtin.zeroCells elZ.cells (grownCap w (n + 1) cap 49 - (n + 1))) 49)) := fun ty => by
    have h := Lib.run_append_grow_zeros w 28 3 ty 49 i0 elZ .i64 .i64 Tryd.underlying28 Tryd.underlying3 hi0 hz0 (some ⟨g, 0, none⟩) i cap _ hold (n + 1 - i) (by omega) (by omega) (by omega) (by omega) (by rw [hz2]; omega) (by rw [hz2, hik]; exact growslice_fits (by omega) (by omega))
    rw [hik] at h
    rw [hkk]
    exact h
  obtain ⟨G, hG⟩ : ∃ G, G = grownCap w (n + 1) cap 49 := ⟨_, rfl⟩
  rw [← hG] at hrz
  obtain ⟨W1, hW1⟩ : ∃ W1, W1 = w.drew.alloc (.cells (((xs.take i).flatMap (Flat.cells (α := El))).toArray ++ Builtin.zeroCells elZ.cells (n + 1 - i) ++ Builtin.zeroCells elZ.cells (G - (n + 1))) 49) := ⟨_, rfl⟩
  rw [← hW1] at hrz
  have hGn : n + 1 ≤ G := by rw [hG]; exact grownCap_ge w _ _ _
  have hG63 : G ≤ 9223372036854775807 := by
    have := grownCap_le_maxLen w (n + 1) cap 49 (by unfold maxLen; omega)
    rw [← hG] at this
    unfold maxLen at this
    omega
  have hb1 : Below w.heap.size w W1 := by rw [hW1]; exact (below_drewn w).trans ((below_alloc _ _).mono (Nat.le_refl _))
  have hs1 : W1.heap.size = w.heap.size + 1 := by rw [hW1]; simp
  have hN : ∀ j, j < (n + 1) * 4 → (W1.cell? ⟨w.heap.size, j, none⟩).isSome = true := fun j hj => by
    rw [hW1, World.cell?_alloc_at (w := w.drew) _ _ w.heap.size j rfl, Array.getElem?_eq_getElem (by simp only [Array.size_append, zc_size, List.size_toArray, htl]; omega)]; rfl
  have hT : ∀ j v, ((xs.take i).flatMap (Flat.cells (α := El)))[j]? = some v → W1.cell? ⟨w.heap.size, j, none⟩ = some v := fun j v hj => by
    have hl := (List.getElem?_eq_some_iff.1 hj).1
    rw [hW1, World.cell?_alloc_at (w := w.drew) _ _ w.heap.size j rfl, Array.append_assoc, Array.getElem?_append_left (by simpa using hl), List.getElem?_toArray]
    exact hj
  have hNf : ∀ j, W1.frozen? ⟨w.heap.size, j, none⟩ = false := fun j => by rw [hW1]; exact World.frozen?_alloc_at (w := w.drew) _ _ w.heap.size j rfl
  have hvN : vb ≠ w.heap.size := by omega
  have hgN : g ≠ w.heap.size := by omega
  have hcpA : ∀ ty dl dc, Nat.min 1 dl = 1 → (Builtin.copy_ #[28, 28] ty #[.slice (some ⟨w.heap.size, i * 4, none⟩) dl dc, .slice (some ⟨vb, 0, none⟩) 1 vc]).run Tryd.prog W1 = .ok (goInt ((1 : Nat) : Int)) (W1.setCells w.heap.size (i * 4) (Flat.cells x)) := fun ty dl dc hm =>
    run_copyN W1 _ _ ty 49 w.heap.size (i * 4) dl dc ⟨vb, 0, none⟩ 1 vc _ 4 1 Tryd.underlying28 i0 hi0 hz1 hm (Flat.len x)
      (fun j v hj => by
        rw [add_off]
        refine (hb1.cell (p := ⟨vb, 0 + j, none⟩) hvl).trans ?_
        have := hv.cell 0 (by simp) j v hj
        simpa using this)
      (fun j hj => hN (i * 4 + j) (by have : (Flat.cells x).length = 4 := Flat.len x; omega))
      (fun j hj => hNf _) (fun u hu => by
        have := el_one [x] u (by simpa using hu)
        exact this)
  obtain ⟨W2, hW2⟩ : ∃ W2, W2 = W1.setCells w.heap.size (i * 4) (Flat.cells x) := ⟨_, rfl⟩
  rw [← hW2] at hcpA
  have hcpB : ∀ ty dl sl dc sc, Nat.min sl dl = n - i → (Builtin.copy_ #[28, 28] ty #[.slice (some ⟨w.heap.size, (i + 1) * 4, none⟩) dl dc, .slice (some ⟨g, i * 4, none⟩) sl sc]).run Tryd.prog W2.drew = .ok (goInt ((n - i : Nat) : Int)) (W2.drew.setCells w.heap.size ((i + 1) * 4) ((xs.drop i).flatMap Flat.cells)) := fun ty dl sl dc sc hm =>
    run_copyN W2.drew _ _ ty 49 w.heap.size ((i + 1) * 4) dl dc ⟨g, i * 4, none⟩ sl sc _ 4 (n - i) Tryd.underlying28 i0 hi0 hz1 hm hdl
      (fun j v hj => by
        show W2.cell? _ = _
        rw [hW2, add_off, World.cell?_setCells_out _ _ _ _ ⟨g, i * 4 + j, none⟩ (fun h _ => absurd h hgN)]
        refine (hb1.cell (p := ⟨g, i * 4 + j, none⟩) hgl).trans ?_
        have := drop_cells hown i j v hj
        rwa [add_off] at this)
      (fun j hj => by
        show (W2.cell? _).isSome = _
        rw [hW2]
        exact isSome_setCellsE _ _ (i * 4) W1 (fun m hm => hN (i * 4 + m) (by have : (Flat.cells x).length = 4 := Flat.len x; omega)) ((i + 1) * 4 + j) (hN ((i + 1) * 4 + j) (by rw [hdl] at hj; omega)))
      (fun j hj => by
        show W2.frozen? _ = _
        rw [hW2, World.frozen?_setCells]
        exact hNf _) (el_one _)
  obtain ⟨W3, hW3⟩ : ∃ W3, W3 = W2.drew.setCells w.heap.size ((i + 1) * 4) ((xs.drop i).flatMap Flat.cells) := ⟨_, rfl⟩
  rw [← hW3] at hcpB
  have HK3 : Only (fun k => k = w.heap.size) W1 W3 := by
    rw [hW3, hW2]
    exact only_cells (S := fun k => k = w.heap.size) (g := w.heap.size) rfl _ _ _ _ ((only_cells (S := fun k => k = w.heap.size) (g := w.heap.size) rfl _ _ _ _ (Only.refl _ W1)).trans (Only.of_below (below_drewn _) (Nat.le_refl _)))
  have HRES := Lib.hid (show OwnAt W3 w.heap.size 0 (insEl xs i x) by
    have := ins_grow (x := x) (show i ≤ xs.length by omega) hT (fun j hj => hN j (by omega)) hNf
    rw [← hW2] at this
    rw [hW3, ← drew_setCells]
    exact this.block rfl)
  have HB3 := Lib.hid (hb1.trans (HK3.below (by omega) (fun k e => by omega)))
  have HS3 := Lib.hid (show w.heap.size < W3.heap.size by have := HK3.size; omega)
  have HRZ := Lib.hid hrz
  have HCPA := Lib.hid (hcpA 3 (n + 1 - i) (G - i) (by simp only [Nat.min_def]; split <;> omega))
  have HCPB := Lib.hid (hcpB 3 (n + 1 - (i + 1)) (n - i) (G - (i + 1)) (cap - i) (by simp only [Nat.min_def]; split <;> omega))
  have HGN := Lib.hid hGn
  have mixed : Tryd.prog.follows .mixedOrders = true := by kernel_rfl
  have q1 : ¬ ((i : Int) = (n : Int)) := by omega
  have q2 : (cap : Int) < (n : Int) + 1 := by omega
  have q4 : (i : Int) ≤ (cap : Int) := by omega
  have q5 : (0 : Int) ≤ (i : Int) + 1 := by omega
  have q6 : (i : Int) + 1 ≤ (n : Int) + 1 := by omega
  have q7 : ((i : Int) + 1).toNat = i + 1 := by omega
  have q8 : (0 : Int) ≤ (i : Int) := by omega
  have q9 : (i : Int) ≤ (n : Int) := by omega
  have q10 : (i : Int) ≤ (n : Int) + 1 := by omega
  have q11 : ¬ (G = i + 1) := by omega
  have q12 : ¬ (G = i) := by omega
  have q15 : ¬ (cap = i) := by omega
  have q13 : IntKind.i64.wrap ((i : Int) + 1) = (i : Int) + 1 := IntWalk.i64_in _ (by omega)
  have q14 : IntKind.i64.wrap ((n : Int) + 1) = (n : Int) + 1 := IntWalk.i64_in _ (by omega)
  have q16 : IntKind.i64.wrap ((n : Int) + 1 - (i : Int)) = (n : Int) + 1 - (i : Int) := IntWalk.i64_in _ (by omega)
  clear h hown hv hdl htl hcpA hcpB hW1 hW2 hW3 hi0 hz0 hz1 hz2 hxl hkk hik hold hrz hG hb1 hs1 hN hT hNf HK3 hvN hgN hGn
  go_enter Tryd.func56, Tryd.ntmps56
  go_wp2_with (at_builtin; refine Lib.wpList_append_run _ rfl _ _ _ _ rfl _ _ rfl rfl _ _ (HRZ.out _) ?_)
  rw [HCPA.out]
  go_wp2_with fail
  go_region_law_o (refine step_copy_runE rfl (.tmp 50) (.tmp 53) 28 28 rfl (.slice (some ⟨w.heap.size, (i + 1) * 4, none⟩) (n + 1 - (i + 1)) (G - (i + 1))) (.slice (some ⟨g, i * 4, none⟩) (n - i) (cap - i)) (by simp [Act.eval, Act.put]) (by simp [Act.eval, Act.put]) HCPB.out ?_)
  go_wp2
  go_ret
  exact ⟨G, rfl, HGN.out, HRES.out, HB3.out, HS3.out⟩

theorem prow_new {w : World} {B g n cap : Nat} {xs : List El} (h : ElRow w B g n cap xs) : w.ownsRow B 49 4 (.slice (some ⟨g, 0, none⟩) n cap) n (xs.flatMap Flat.cells) := h.1
set_option maxHeartbeats 2000000 in
theorem insert_end (B g cap n vb vc : Nat) (xs : List El) (x : El) (w : World) (h : ElRow w B g n cap xs) (hn : n ≤ 1048576) (hv : OwnAt w vb 0 [x]) (hB : B ≤ w.heap.size) :
    Calls Tryd.prog 56 #[.slice (some ⟨g, 0, none⟩) n cap, .int .i64 n, .slice (some ⟨vb, 0, none⟩) 1 vc] w fun e w' => ∃ g' G, e = .returned (.slice (some ⟨g', 0, none⟩) (n + 1) G) ∧ OwnAt w' g' 0 (insEl xs n x) ∧ Only (fun k => k = g) w w' ∧ (g' = g ∨ g' = w.heap.size) ∧ g' < w'.heap.size := by
  obtain ⟨i0, hi0, hz0, hz1, hz2⟩ := info_parts Tryd.infoEl
  have HZ := Lib.hid (And.intro hi0 (And.intro hz0 (And.intro hz1 hz2)))
  have HH := Lib.hid h
  have HV := Lib.hid (show 0 < 1 → ∃ ad, (some ⟨vb, 0, none⟩ : Option Addr) = some ad ∧ ∀ j u, ([x].flatMap (Flat.cells (α := El)))[j]? = some u → w.cell? (ad.add j) = some u from fun _ => ⟨_, rfl, fun j u hj => by
    rw [add_off]
    have hj' : (Flat.cells x)[j]? = some u := by simpa using hj
    have := hv.cell 0 (by simp) j u hj'
    simpa using this⟩)
  have q1 : (n : Int) ≤ (n : Int) := by omega
  have q2 : (0 : Int) ≤ (n : Int) := by omega
  clear hi0 hz0 hz1 hz2 h hv
  go_enter Tryd.func56, Tryd.ntmps56
  go_wp2_with (at_builtin; refine wpList_append_srcN _ rfl (.tmp 23) (.tmp 24) 28 rfl B 49 i0 (.agg #[.string ⟨#[]⟩, .int .i64 0, .int .i64 0, .int .i64 0]) 4 40 (by decide) Tryd.underlying28 HZ.out.1 HZ.out.2.1 HZ.out.2.2.1 HZ.out.2.2.2 rfl (.slice (some ⟨g, 0, none⟩) n cap) n (xs.flatMap Flat.cells) rfl HH.out.1 (some ⟨vb, 0, none⟩) 1 vc ([x].flatMap Flat.cells) rfl (flat_len [x]) HV.out (el_one _) (by unfold maxLen; omega) (by omega) hB ?_; intro v1 w1 hown1 hgrow1 hat1; have HOWN1 := Lib.hid hown1; have HG1 := Lib.hid hgrow1; have HA1 := Lib.hid hat1; clear hown1 hgrow1 hat1)
  all_goals
    go_ret
    have hl : xs.length = n := HH.out.2
    obtain ⟨g', G, rfl, h1, h2⟩ := row_pos HOWN1.out (Nat.succ_pos n)
    refine ⟨g', ⟨G, rfl⟩, ?_, ⟨HG1.out.os, HG1.out.tape, HG1.out.output, HG1.out.size, fun k hk hne => HG1.out.block k hk (fun e => hne (Option.some.inj e))⟩, ?_, h2⟩
    · have he : insEl xs n x = xs ++ [x] := by
        unfold insEl
        rw [← hl, List.take_length, List.drop_length]
      rw [he]
      have ho := HOWN1.out
      rw [← List.flatMap_append] at ho
      have hl2 : (xs ++ [x]).length = n + 1 := by rw [List.length_append, hl]; rfl
      rw [← hl2] at ho
      exact own_of_row (α := El) (cap := G) (e := 49) (base := B) (xs ++ [x]) ho
    · rcases HA1.out with h | h
      · exact .inl (Option.some.inj h)
      · exact .inr (Option.some.inj h)

theorem insert_any (B g cap i n vb vc : Nat) (xs : List El) (x : El) (w : World) (h : ElRow w B g n cap xs) (hi : i ≤ n) (hn : n ≤ 1048576) (hv : OwnAt w vb 0 [x]) (hpv : Plain w vb 4) (hvb : vb ≠ g) (hvl : vb < w.heap.size) (hB : B ≤ w.heap.size) :
    Calls Tryd.prog 56 #[.slice (some ⟨g, 0, none⟩) n cap, .int .i64 i, .slice (some ⟨vb, 0, none⟩) 1 vc] w fun e w' => ∃ g' G, e = .returned (.slice (some ⟨g', 0, none⟩) (n + 1) G) ∧ OwnAt w' g' 0 (insEl xs i x) ∧ Only (fun k => k = g) w w' ∧ (g' = g ∨ g' = w.heap.size) ∧ g' < w'.heap.size := by
  rcases Nat.lt_or_ge i n with hlt | hge
  · by_cases hroom : n + 1 ≤ cap
    · exact (insert_shift B g cap i n vb vc xs x w h hlt hroom h.caps.2 hn hv hpv hvb).mono fun e w' ⟨h1, h2, h3⟩ => ⟨g, cap, h1, h2, h3, .inl rfl, Nat.lt_of_lt_of_le h.lt h3.size⟩
    · exact (insert_grow B g cap i n vb vc xs x w h hlt hroom hn hv hvl).mono fun e w' ⟨G, h1, _, h2, h3, h4⟩ => ⟨_, G, h1, h2, Only.of_below h3 (Nat.le_refl _), .inr rfl, h4⟩
  · obtain rfl : i = n := by omega
    exact insert_end B g cap i vb vc xs x w h hn hv hB
end Go.Proofs.YtmncigeelfappaaDoor
