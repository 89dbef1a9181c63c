/- Copies of codes in the model. -/
import Derived.Test.YtlefinookpknpaaDoorCdC
import Derived.Test.YtlefinookpknpaaDoorAppN
import Derived.Test.YtlefinookpknpaaDoorCdQ
import Derived.Deep.RegionHeld3
namespace Go.Proofs.YtlefinookpknpaaDoor
open Go.ChangeShapes Go.WideShapes Go.ChangeAt Go.RowKit Go.PlainAid Go.Sort
set_option linter.unusedVariables false

theorem lst_src {w W : World} {B : Nat} {A : Option Addr} {xs : List Int} (h : Lst w B A xs) (hb : Below B w W) : 0 < xs.length → ∃ ad, A = some ad ∧ ∀ j u, (xs.map (Value.int .i64))[j]? = some u → W.cell? (ad.add j) = some u := fun hp => by
  obtain ⟨b, o, rfl, hbl, hc⟩ := h.int hp
  refine ⟨_, rfl, fun j u hj => ?_⟩
  have hj' : j < xs.length := by
    have := (List.getElem?_eq_some_iff.1 hj).1
    simpa using this
  rw [List.getElem?_map, it_get xs j hj'] at hj
  have hu : Value.int .i64 (it xs j) = u := by simpa using hj
  rw [← hu]
  have hadd : (⟨b, o, none⟩ : Addr).add j = ⟨b, o + j, none⟩ := by
    unfold Addr.add
    by_cases e : j = 0 <;> simp [e]
  rw [hadd]
  exact (hb.cell (p := ⟨b, o + j, none⟩) hbl).trans (hc j hj')
theorem el_src {w W : World} {B : Nat} {A : Option Addr} {xs : List El} (h : Lst w B A xs) (hb : Below B w W) : 0 < xs.length → ∃ ad, A = some ad ∧ ∀ j u, (xs.flatMap Flat.cells)[j]? = some u → W.cell? (ad.add j) = some u := fun hp => by
  obtain ⟨b, o, rfl, hbl, hc⟩ := h hp
  refine ⟨_, rfl, fun j u hj => ?_⟩
  have := CellsAll (by decide) hc j u hj
  have hadd : (⟨b, o, none⟩ : Addr).add j = ⟨b, o + j, none⟩ := by
    unfold Addr.add
    by_cases e : j = 0 <;> simp [e]
  rw [hadd]
  exact (hb.cell (p := ⟨b, o + j, none⟩) hbl).trans this
theorem int_one (xs : List Int) : ∀ u ∈ xs.map (Value.int .i64), u.oneCell' = true := fun u hu => by
  obtain ⟨x, _, rfl⟩ := List.mem_map.1 hu
  rfl
theorem row_pos {w : World} {B sz n : Nat} {e : TypeId} {v : Value} {cs : List Value} (h : w.ownsRow B e sz v n cs) (hn : 0 < n) : ∃ g cap, v = .slice (some ⟨g, 0, none⟩) n cap ∧ B ≤ g ∧ g < w.heap.size := by
  rcases h.2 with ⟨_, h0⟩ | ⟨g, cap, cur, hv, _⟩
  · omega
  · exact ⟨g, cap, hv, by subst hv; exact (h.lt g rfl).1, by subst hv; exact (h.lt g rfl).2⟩

theorem BoxAt.six {w : World} {b : Nat} {A L : Option Addr} {c d : Nat} {x : Cd} (h : BoxAt w b A c L d x) (b' : Nat) (hne : b ≠ b') (u0 u1 u2 u3 u4 u5 : Value) : BoxAt (put6 w b' u0 u1 u2 u3 u4 u5) b A c L d x := by
  have hk := only_six w b' u0 u1 u2 u3 u4 u5
  have hb := hk.block b h.lt (fun e => hne e)
  refine ⟨Nat.lt_of_lt_of_le h.lt hk.size, ?_, ?_, ?_, ?_, ?_, ?_⟩
  · exact (World.cell?_of_block (a := ⟨b, 0, none⟩) hb).trans h.box.c0
  · exact (World.cell?_of_block (a := ⟨b, 1, none⟩) hb).trans h.box.c1
  · exact (World.cell?_of_block (a := ⟨b, 2, none⟩) hb).trans h.box.c2
  · exact (World.cell?_of_block (a := ⟨b, 3, none⟩) hb).trans h.box.c3
  · exact (World.cell?_of_block (a := ⟨b, 4, none⟩) hb).trans h.box.c4
  · exact (World.cell?_of_block (a := ⟨b, 5, none⟩) hb).trans h.box.c5
theorem BoxAt.six' {w : World} {b : Nat} {A L : Option Addr} {c d : Nat} {x : Cd} (h : BoxAt w b A c L d x) (b' : Nat) (hne : b ≠ b') (u0 u1 u2 u3 u4 u5 : Value) : BoxAt ((((((w.setCell ⟨b', 0, none⟩ u0).setCell ⟨b', 1, none⟩ u1).setCell ⟨b', 2, none⟩ u2).setCell ⟨b', 3, none⟩ u3).setCell ⟨b', 4, none⟩ u4).setCell ⟨b', 5, none⟩ u5) b A c L d x := h.six b' hne u0 u1 u2 u3 u4 u5
theorem below_adn (w : World) (o : Obj) : Below w.heap.size w (w.alloc o).drew := (below_alloc w o).trans ((below_drewn _).mono (by simp))
theorem box1' {w : World} {b : Nat} {A L : Option Addr} {c d : Nat} {x : Cd} (h : BoxAt w b A c L d x) :
    w.cell? ⟨b, 0, none⟩ = some (.slice A x.els.length c) ∧ w.cell? ⟨b, 1, none⟩ = some (.slice L x.lims.length d) ∧ w.cell? ⟨b, 2, none⟩ = some (.int .i64 x.rep) ∧ w.cell? ⟨b, 3, none⟩ = some (.int .i64 x.bon) ∧ w.cell? ⟨b, 4, none⟩ = some (.int .i64 x.kee) ∧ w.cell? ⟨b, 5, none⟩ = some (.int .i64 x.fal) :=
  ⟨h.box.c0, h.box.c1, h.box.c2, h.box.c3, h.box.c4, h.box.c5⟩

end Go.Proofs.YtlefinookpknpaaDoor
