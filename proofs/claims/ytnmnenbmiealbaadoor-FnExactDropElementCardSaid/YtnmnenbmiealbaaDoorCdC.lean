/- Copies of codes, in the program and in the model. -/
import Derived.Test.YtnmnenbmiealbaaDoorCdV
import Derived.Test.YtnmnenbmiealbaaDoorCdO
import Derived.Test.YtnmnenbmiealbaaDoorShelf
import Derived.Shelf.SlicesE.Clone
namespace Go.Proofs
open Go.Shelf
def Tryd.cloneE_ren : Go.Shelf.Ren := ⟨fun | 41 => 75 | n => n, fun | 22 => 29 | 23 => 72 | 4 => 4 | n => n, fun | n => n⟩
theorem Tryd.laysCloneE : Go.Proofs.SlLaysE0.n41 Tryd.prog Tryd.cloneE_ren := {
  mixed := by kernel_rfl
  f41 := ⟨Tryd.f75.name, by decide, Tryd.func75.trans (congrArg some (by kernel_rfl))⟩
  t4 := Tryd.underlying4
  a4 := Tryd.isAgg4
  z4 := Tryd.sizeOf4
  v4 := Tryd.zeroValue4
  t22 := Tryd.underlying29
  a22 := Tryd.isAgg29
  z22 := Tryd.sizeOf29
  v22 := Tryd.zeroValue29 }
end Go.Proofs
namespace Go.Proofs.YtnmnenbmiealbaaDoor
open Go.ChangeShapes Go.WideShapes Go.ChangeAt Go.RowKit Go.PlainAid Go.Sort
set_option linter.unusedVariables false

theorem CellsAll {α : Type} [Flat α] {w : World} {b o : Nat} {xs : List α} (hs : 0 < Flat.sz α) (h : ∀ i, i < xs.length → CellsAt w b (o + i * Flat.sz α) (Flat.cells (it xs i))) :
    ∀ j u, (xs.flatMap Flat.cells)[j]? = some u → w.cell? ⟨b, o + j, none⟩ = some u := fun j u hj => by
  have hl : j < xs.length * Flat.sz α := by
    have := (List.getElem?_eq_some_iff.1 hj).1
    rwa [flat_len] at this
  have hd := Nat.div_add_mod j (Flat.sz α)
  have hm := Nat.mod_lt j hs
  have hq : j / Flat.sz α < xs.length := by
    rw [Nat.div_lt_iff_lt_mul hs]
    exact hl
  have hp : j = j / Flat.sz α * Flat.sz α + j % Flat.sz α := by
    rw [Nat.mul_comm]
    exact hd.symm
  rw [hp, flat_get _ _ _ hq hm] at hj
  have := h _ hq _ _ hj
  rw [show o + j / Flat.sz α * Flat.sz α + j % Flat.sz α = o + j by omega] at this
  exact this
theorem el_one (xs : List El) : ∀ u ∈ xs.flatMap Flat.cells, u.oneCell' = true := fun u hu => by
  obtain ⟨x, _, hx⟩ := List.mem_flatMap.1 hu
  have hx' : u ∈ El.cs x := hx
  unfold El.cs at hx'
  simp only [List.mem_cons, List.not_mem_nil, or_false] at hx'
  rcases hx' with rfl | rfl | rfl | rfl <;> rfl

/-- A slice of elements of the call's own, with the room behind it. -/
def ElRow (w : World) (B g n cap : Nat) (xs : List El) : Prop := w.ownsRow B 72 4 (.slice (some ⟨g, 0, none⟩) n cap) n (xs.flatMap Flat.cells) ∧ xs.length = n
theorem ElRow.own {w : World} {B g n cap : Nat} {xs : List El} (h : ElRow w B g n cap xs) : OwnAt w g 0 xs := by
  obtain ⟨h, rfl⟩ := h
  exact own_of_row (α := El) (cap := cap) (e := 72) (base := B) xs h
theorem ElRow.le {w : World} {B g n cap : Nat} {xs : List El} (h : ElRow w B g n cap xs) : B ≤ g := (h.1.lt g rfl).1
theorem ElRow.lt {w : World} {B g n cap : Nat} {xs : List El} (h : ElRow w B g n cap xs) : g < w.heap.size := (h.1.lt g rfl).2

theorem cloneE_any (b o c : Nat) (xs : List El) (w : World) (hc : ∀ i, i < xs.length → CellsAt w b (o + i * Flat.sz El) (Flat.cells (it xs i))) (hl : xs.length ≤ 1048576) :
    Calls Tryd.prog 75 #[.slice (some ⟨b, o, none⟩) xs.length c] w fun e w' => ∃ g cap, e = .returned (.slice (some ⟨g, 0, none⟩) xs.length cap) ∧ ElRow w' w.heap.size g xs.length cap xs ∧ Below w.heap.size w w' := by
  obtain ⟨i0, hi, hz0, hz1, hz2⟩ := info_parts Tryd.infoEl
  refine (AnyE.slices_Clone Tryd.laysCloneE i0 (.agg #[.string ⟨#[]⟩, .int .i64 0, .int .i64 0, .int .i64 0]) 4 40 hi hz0 hz1 hz2 rfl (by decide) Tryd.sizeOf72 b o xs.length c (xs.flatMap Flat.cells) w (flat_len xs) (by unfold maxLen; omega) (by omega) (CellsAll (by decide) hc) (el_one xs)).mono ?_
  rintro e w' ⟨v, rfl, ho, hne, hb⟩
  have ho' : w'.ownsRow w.heap.size 72 4 v xs.length (xs.flatMap Flat.cells) := ho
  rcases ho'.2 with ⟨hv, _⟩ | ⟨g, cap, cur, rfl, _⟩
  · exact absurd hv hne
  · exact ⟨g, cap, rfl, ⟨ho', rfl⟩, hb⟩
theorem cloneI_any (b o c : Nat) (xs : List Int) (w : World) (hc : ∀ i, i < xs.length → w.cell? ⟨b, o + i, none⟩ = some (.int .i64 (it xs i))) (hl : xs.length ≤ 1048576) :
    Calls Tryd.prog 76 #[.slice (some ⟨b, o, none⟩) xs.length c] w fun e w' => ∃ g cap, e = .returned (.slice (some ⟨g, 0, none⟩) xs.length cap) ∧ OwnAt w' g 0 xs ∧ w.heap.size ≤ g ∧ g < w'.heap.size ∧ Below w.heap.size w w' := by
  refine (Tryd.slices_Clone_int b o xs.length c xs w (Nat.le_refl _) (by omega) hc).mono ?_
  rintro e w' ⟨v, rfl, ho, hne, hb⟩
  rw [List.take_length] at ho
  rcases ho.2 with ⟨hv, _⟩ | ⟨g, cap, cur, rfl, _⟩
  · exact absurd hv hne
  · refine ⟨g, cap, rfl, ?_, (ho.lt g rfl).1, (ho.lt g rfl).2, hb⟩
    refine own_of_row (α := Int) (cap := cap) (e := 3) (base := w.heap.size) xs ?_
    rw [flatMap_int]
    exact ho
theorem ownsRow_block {w w' : World} {B : Nat} {e : TypeId} {sz g o n cap : Nat} {xs : List Value} (h : w.ownsRow B e sz (.slice (some ⟨g, o, none⟩) n cap) n xs) (hb : w'.heap[g]? = w.heap[g]?) : w'.ownsRow B e sz (.slice (some ⟨g, o, none⟩) n cap) n xs := by
  refine ⟨h.1, ?_⟩
  rcases h.2 with ⟨hv, _⟩ | ⟨g', cap', cur, hv, h1, h2, h3⟩
  · cases hv
  · refine .inr ⟨g', cap', cur, hv, h1, ?_, h3⟩
    have hg : g = g' := by injection hv with hv; injection hv with hv; injection hv
    rw [← hg] at h2 ⊢
    rw [hb]
    exact h2
theorem ElRow.block {w w' : World} {B g n cap : Nat} {xs : List El} (h : ElRow w B g n cap xs) (hb : w'.heap[g]? = w.heap[g]?) : ElRow w' B g n cap xs := ⟨ownsRow_block h.1 hb, h.2⟩
theorem ElRow.next {w w' : World} {B g n cap : Nat} {xs : List El} (h : ElRow w B g n cap xs) (hb : Below w.heap.size w w') : ElRow w' B g n cap xs := h.block (hb.block g h.lt)
theorem ElRow.base {w : World} {B B' g n cap : Nat} {xs : List El} (h : ElRow w B g n cap xs) (hB : B' ≤ B) : ElRow w B' g n cap xs := by
  refine ⟨⟨h.1.1, ?_⟩, h.2⟩
  rcases h.1.2 with ⟨hv, hn⟩ | ⟨g', cap', cur, hv, h1, h2⟩
  · exact .inl ⟨hv, hn⟩
  · exact .inr ⟨g', cap', cur, hv, Nat.le_trans hB h1, h2⟩

set_option maxHeartbeats 2000000 in
theorem iCopy_any (A L : Option Addr) (c d : Nat) (x : Cd) (w : World) (hr : CdAt w A L x) (hok : CdOk x) :
    Calls Tryd.prog 47 #[x.val A c L d] w fun e w' => ∃ g1 c1 g2 c2, e = .returned (x.val (some ⟨g1, 0, none⟩) c1 (some ⟨g2, 0, none⟩) c2) ∧ ElRow w' w.heap.size g1 x.els.length c1 x.els ∧ OwnAt w' g2 0 x.lims ∧ w.heap.size ≤ g2 ∧ g2 < w'.heap.size ∧ g1 ≠ g2 ∧ Below w.heap.size w w' := by
  have HOK := Lib.hid hok
  have hl1 : x.els.length ≤ 1048576 := by have := hok.els.hi; omega
  have hl2 : x.lims.length ≤ 1048576 := by have := hok.lims.len; omega
  obtain ⟨b, o, rfl, hbl, hc⟩ := hr.els (by have := hok.els.lo; omega)
  obtain ⟨b', o', rfl, hbl', hc'⟩ := hr.lims.int (by have := hok.lims.len; omega)
  have HC := Lib.hid hc
  have HC' := Lib.hid hc'
  clear hr hok hc hc'
  unfold Cd.val
  go_enter Tryd.func47, Tryd.ntmps47
  go_wp2_with fail
  generalize hW : World.alloc (World.alloc w _) _ = W
  have hB : Below w.heap.size w W := by
    rw [← hW]
    go_grown
  have hS : W.heap.size = w.heap.size + 2 := by rw [← hW]; simp
  have hX : CdMem W w.heap.size (.slice (some ⟨b, o, none⟩) x.els.length c) (.slice (some ⟨b', o', none⟩) x.lims.length d) (.int .i64 x.rep) (.int .i64 x.bon) (.int .i64 x.kee) (.int .i64 x.fal) := by
    rw [← hW]
    exact (cdMem_new w _ _ rfl _ _ _ _ _ _).below ((Below.refl _ _).alloc (Nat.le_refl _) _) (by simp)
  have hM : CdMem W (w.heap.size + 1) (.slice none 0 0) (.slice none 0 0) (.int .i64 0) (.int .i64 0) (.int .i64 0) (.int .i64 0) := by
    rw [← hW]
    exact cdMem_new _ _ _ (by simp) _ _ _ _ _ _
  clear hW
  refine (cloneE_any b o c x.els W (fun i hi => (HC.out i hi).below hB hbl) hl1).mono ?_
  rintro e w2 ⟨g1, c1, rfl, ho, hb⟩
  have hX2 := hX.below hb (by omega)
  have hM2 := hM.below hb (by omega)
  have hg1 : w.heap.size + 2 ≤ g1 := by have := ho.le; omega
  have HX3 := Lib.hid (hX2.set0 (.slice (some ⟨g1, 0, none⟩) x.els.length c1))
  have HM3 := Lib.hid (hM2.other ⟨w.heap.size, 0, none⟩ (by simp) (.slice (some ⟨g1, 0, none⟩) x.els.length c1))
  have HO3 := Lib.hid ((show ElRow (w2.setCell ⟨w.heap.size, 0, none⟩ (.slice (some ⟨g1, 0, none⟩) x.els.length c1)) W.heap.size g1 x.els.length c1 x.els from ho.block (Below.heap_setCell _ _ _ _ (by simp; omega))).base (by omega : w.heap.size ≤ W.heap.size))
  have HB3 := Lib.hid (show Below w.heap.size w (w2.setCell ⟨w.heap.size, 0, none⟩ (.slice (some ⟨g1, 0, none⟩) x.els.length c1)) from (Below_next hB hb).setCell (Nat.le_refl _) _)
  have hs3 : (w2.setCell ⟨w.heap.size, 0, none⟩ (.slice (some ⟨g1, 0, none⟩) x.els.length c1)).heap.size = w2.heap.size := by simp [World.setCell]
  have hg1' : g1 < w2.heap.size := ho.lt
  have hs2 : w.heap.size + 2 ≤ w2.heap.size := by rw [← hS]; exact hb.size
  obtain ⟨x0, x1, x2, x3, x4, x5, xf⟩ := hX2
  clear hM2 hX hM hb ho hB
  go_wp2_with fail
  clear x0 x1 x2 x3 x4 x5 xf
  revert HX3 HM3 HO3 HB3
  generalize World.setCell w2 _ _ = w3 at hs3 ⊢
  intro HX3 HM3 HO3 HB3
  refine (cloneI_any b' o' d x.lims w3 (fun i hi => (HB3.out.cell (p := ⟨b', o' + i, none⟩) hbl').trans (HC'.out i hi)) hl2).mono ?_
  rintro e w4 ⟨g2, c2, rfl, ho, hg2, hg2', hb⟩
  have HM4 := Lib.hid (HM3.out.below hb (by omega))
  have hX4 := HX3.out.below hb (by omega)
  have HO4 := Lib.hid (HO3.out.next hb)
  have HI4 := Lib.hid ho
  have HB4 := Lib.hid (Below_next HB3.out hb)
  have hq1 : w.heap.size < g2 := by omega
  have hq2 : w.heap.size + 1 < g2 := by omega
  have hq3 : g1 < g2 := by omega
  have hsz4 : w.heap.size + 2 ≤ w4.heap.size := by have := hb.size; omega
  obtain ⟨m0, m1, m2, m3, m4, m5, mf⟩ := HM4.out
  obtain ⟨x0, x1, x2, x3, x4, x5, xf⟩ := hX4
  clear ho hb HX3 HM3 HO3 HB3 hs3 hs2 hS
  go_wp2
  refine stop_body ⟨?_⟩
  intro w8 hw8
  have hm8 := (HM4.out.other ⟨w.heap.size, 1, none⟩ (by simp) (.slice (some ⟨g2, 0, none⟩) x.lims.length c2)).all (.slice (some ⟨g1, 0, none⟩) x.els.length c1) (.slice (some ⟨g2, 0, none⟩) x.lims.length c2) (.int .i64 x.rep) (.int .i64 x.bon) (.int .i64 x.kee) (.int .i64 x.fal)
  have hk8 : Only (fun i => i = w.heap.size ∨ i = w.heap.size + 1) w4 (put6 (w4.setCell ⟨w.heap.size, 1, none⟩ (.slice (some ⟨g2, 0, none⟩) x.lims.length c2)) (w.heap.size + 1) (.slice (some ⟨g1, 0, none⟩) x.els.length c1) (.slice (some ⟨g2, 0, none⟩) x.lims.length c2) (.int .i64 x.rep) (.int .i64 x.bon) (.int .i64 x.kee) (.int .i64 x.fal)) :=
    ((Only.refl _ w4).put w.heap.size 1 (.inl rfl) _).trans ((only_six _ _ _ _ _ _ _ _).mono (fun i h => .inr h))
  rw [show put6 (w4.setCell ⟨w.heap.size, 1, none⟩ (.slice (some ⟨g2, 0, none⟩) x.lims.length c2)) (w.heap.size + 1) (.slice (some ⟨g1, 0, none⟩) x.els.length c1) (.slice (some ⟨g2, 0, none⟩) x.lims.length c2) (.int .i64 x.rep) (.int .i64 x.bon) (.int .i64 x.kee) (.int .i64 x.fal) = w8 from hw8.symm] at hm8 hk8
  have HK8 := Lib.hid hk8
  clear hw8 hk8 m0 m1 m2 m3 m4 m5 mf x0 x1 x2 x3 x4 x5 xf
  obtain ⟨m0, m1, m2, m3, m4, m5, mf⟩ := hm8
  refine bodyPost_ret (v := .agg #[.slice (some ⟨g1, 0, none⟩) x.els.length c1, .slice (some ⟨g2, 0, none⟩) x.lims.length c2, .int .i64 x.rep, .int .i64 x.bon, .int .i64 x.kee, .int .i64 x.fal]) (by simp [results, Tryd.results47, go_sem, m0, m1, m2, m3, m4, m5]) rfl ?_
  exact ⟨g1, c1, g2, c2, rfl, HO4.out.block (HK8.out.block g1 HO4.out.lt (by omega)), HI4.out.block (HK8.out.block g2 hg2' (by omega)), by omega, Nat.lt_of_lt_of_le hg2' HK8.out.size, by omega, HB4.out.trans (HK8.out.below HB4.out.size (fun k hk => by omega))⟩
end Go.Proofs.YtnmnenbmiealbaaDoor
