/- Copies of codes in the model. -/
import Derived.Test.YtnlcdfaojcnkpaaDoorBe
import Derived.Test.YtnlcdfaojcnkpaaDoorCdC
import Derived.Test.YtnlcdfaojcnkpaaDoorCdQ
import Derived.Deep.RegionHeld3
namespace Go.Proofs.YtnlcdfaojcnkpaaDoor
open Go.ChangeShapes Go.WideShapes Go.ChangeAt Go.RowKit Go.PlainAid Go.Sort
set_option linter.unusedVariables false

theorem lst_src {w W : World} {B : Nat} {A : Option Addr} {xs : List Int} (h : Lst w B A xs) (hb : Below B w W) : 0 < xs.length → ∃ ad, A = some ad ∧ ∀ j u, (xs.map (Value.int .i64))[j]? = some u → W.cell? (ad.add j) = some u := fun hp => by
  obtain ⟨b, o, rfl, hbl, hc⟩ := h.int hp
  refine ⟨_, rfl, fun j u hj => ?_⟩
  have hj' : j < xs.length := by
    have := (List.getElem?_eq_some_iff.1 hj).1
    simpa using this
  rw [List.getElem?_map, it_get xs j hj'] at hj
  have hu : Value.int .i64 (it xs j) = u := by simpa using hj
  rw [← hu]
  have hadd : (⟨b, o, none⟩ : Addr).add j = ⟨b, o + j, none⟩ := by
    unfold Addr.add
    by_cases e : j = 0 <;> simp [e]
  rw [hadd]
  exact (hb.cell (p := ⟨b, o + j, none⟩) hbl).trans (hc j hj')
theorem el_src {w W : World} {B : Nat} {A : Option Addr} {xs : List El} (h : Lst w B A xs) (hb : Below B w W) : 0 < xs.length → ∃ ad, A = some ad ∧ ∀ j u, (xs.flatMap Flat.cells)[j]? = some u → W.cell? (ad.add j) = some u := fun hp => by
  obtain ⟨b, o, rfl, hbl, hc⟩ := h hp
  refine ⟨_, rfl, fun j u hj => ?_⟩
  have := CellsAll (by decide) hc j u hj
  have hadd : (⟨b, o, none⟩ : Addr).add j = ⟨b, o + j, none⟩ := by
    unfold Addr.add
    by_cases e : j = 0 <;> simp [e]
  rw [hadd]
  exact (hb.cell (p := ⟨b, o + j, none⟩) hbl).trans this
theorem int_one (xs : List Int) : ∀ u ∈ xs.map (Value.int .i64), u.oneCell' = true := fun u hu => by
  obtain ⟨x, _, rfl⟩ := List.mem_map.1 hu
  rfl
theorem l1Own_any (A : Option Addr) (c : Nat) (l : List Int) (w : World) (hr : Lst w w.heap.size A l) (hl : l.length ≤ 1048576) (hp : 0 < l.length) :
    Calls Tryd.prog 168 #[.slice A l.length c] w fun e w' => ∃ g cap, e = .returned (.slice (some ⟨g, 0, none⟩) l.length cap) ∧ OwnAt w' g 0 l ∧ w.heap.size ≤ g ∧ g < w'.heap.size ∧ Below w.heap.size w w' := by
  obtain ⟨i0, hi, hz0, hz1, hz2⟩ := info_parts Tryd.infoInt
  have HZ := Lib.hid (And.intro hi (And.intro hz0 (And.intro hz1 hz2)))
  have HR := Lib.hid hr
  clear hi hz0 hz1 hz2 hr
  go_enter Tryd.func168, Tryd.ntmps168
  go_wp2_with (at_builtin; refine wpList_append_src _ rfl (.tmp 3) (.tmp 4) 23 rfl w.heap.size 3 i0 (.int .i64 0) 8 Tryd.underlying23 HZ.out.1 HZ.out.2.1 HZ.out.2.2.1 HZ.out.2.2.2 rfl (.slice (some ⟨w.heap.size, 0, none⟩) 0 0) 0 [] rfl (owns_emptyN _ _ _ _ _ (Nat.le_refl _) (heap_at_new _ _ _ rfl)) A l.length c (l.map (Value.int .i64)) rfl (by simp) (lst_src HR.out (below_alloc _ _)) (int_one l) (by unfold maxLen; omega) (by omega) (by simp) ?_; intro v1 w1 hown1 hgrow1 hat1; have HOWN1 := Lib.hid hown1; have HG1 := Lib.hid hgrow1; clear hown1 hgrow1 hat1)
  go_ret
  have ho : w1.ownsRow w.heap.size 3 1 v1 l.length (l.map (Value.int .i64)) := by
    have := HOWN1.out
    rwa [Nat.zero_add, List.nil_append] at this
  obtain ⟨g, cap, rfl, h1, h2⟩ := row_pos ho hp
  refine ⟨g, cap, rfl, own_of_row (α := Int) (cap := cap) (e := 3) (base := w.heap.size) l ?_, h1, h2, ?_⟩
  · rw [flatMap_int]
    exact ho
  · exact Below.grown (below_alloc _ _) HG1.out (by simp) (fun kk e => by simp [Value.ownBlock] at e; omega)
theorem BoxAt.six {w : World} {b : Nat} {A L : Option Addr} {c d : Nat} {x : Cd} (h : BoxAt w b A c L d x) (b' : Nat) (hne : b ≠ b') (u0 u1 u2 u3 u4 u5 : Value) : BoxAt (put6 w b' u0 u1 u2 u3 u4 u5) b A c L d x := by
  have hk := only_six w b' u0 u1 u2 u3 u4 u5
  have hb := hk.block b h.lt (fun e => hne e)
  refine ⟨Nat.lt_of_lt_of_le h.lt hk.size, ?_, ?_, ?_, ?_, ?_, ?_⟩
  · exact (World.cell?_of_block (a := ⟨b, 0, none⟩) hb).trans h.box.c0
  · exact (World.cell?_of_block (a := ⟨b, 1, none⟩) hb).trans h.box.c1
  · exact (World.cell?_of_block (a := ⟨b, 2, none⟩) hb).trans h.box.c2
  · exact (World.cell?_of_block (a := ⟨b, 3, none⟩) hb).trans h.box.c3
  · exact (World.cell?_of_block (a := ⟨b, 4, none⟩) hb).trans h.box.c4
  · exact (World.cell?_of_block (a := ⟨b, 5, none⟩) hb).trans h.box.c5
theorem BoxAt.six' {w : World} {b : Nat} {A L : Option Addr} {c d : Nat} {x : Cd} (h : BoxAt w b A c L d x) (b' : Nat) (hne : b ≠ b') (u0 u1 u2 u3 u4 u5 : Value) : BoxAt ((((((w.setCell ⟨b', 0, none⟩ u0).setCell ⟨b', 1, none⟩ u1).setCell ⟨b', 2, none⟩ u2).setCell ⟨b', 3, none⟩ u3).setCell ⟨b', 4, none⟩ u4).setCell ⟨b', 5, none⟩ u5) b A c L d x := h.six b' hne u0 u1 u2 u3 u4 u5
theorem box1' {w : World} {b : Nat} {A L : Option Addr} {c d : Nat} {x : Cd} (h : BoxAt w b A c L d x) :
    w.cell? ⟨b, 0, none⟩ = some (.slice A x.els.length c) ∧ w.cell? ⟨b, 1, none⟩ = some (.slice L x.lims.length d) ∧ w.cell? ⟨b, 2, none⟩ = some (.int .i64 x.rep) ∧ w.cell? ⟨b, 3, none⟩ = some (.int .i64 x.bon) ∧ w.cell? ⟨b, 4, none⟩ = some (.int .i64 x.kee) ∧ w.cell? ⟨b, 5, none⟩ = some (.int .i64 x.fal) :=
  ⟨h.box.c0, h.box.c1, h.box.c2, h.box.c3, h.box.c4, h.box.c5⟩

end Go.Proofs.YtnlcdfaojcnkpaaDoor
