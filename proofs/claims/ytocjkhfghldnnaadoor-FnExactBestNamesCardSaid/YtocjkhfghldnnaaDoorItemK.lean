/- An item without marks, in the model. -/
import Derived.Test.YtocjkhfghldnnaaDoorItemC
import Derived.Test.YtocjkhfghldnnaaDoorApp
import Derived.Test.YtocjkhfghldnnaaDoorAppN
import Derived.Deep.RegionHeld3
namespace Go.Proofs.YtocjkhfghldnnaaDoor
open Go.ChangeShapes Go.WideShapes Go.ChangeAt Go.RowKit Go.PlainAid
set_option linter.unusedVariables false

theorem stop_body {P : Program} {f : Func} {R : Ending → World → Prop} {x : Exit} {a : Act} {w : World} (h : Stop (∀ w', w' = w → bodyPost P f R x a w')) : bodyPost P f R x a w := h.of w rfl
theorem str_src {w W : World} {B : Nat} {A : Option Addr} {xs : List ByteArray} (h : Lst w B A xs) (hb : Below B w W) : 0 < xs.length → ∃ ad, A = some ad ∧ ∀ j u, (xs.map Value.string)[j]? = some u → W.cell? (ad.add j) = some u := fun hp => by
  obtain ⟨b, o, rfl, hbl, hc⟩ := h.str hp
  refine ⟨_, rfl, fun j u hj => ?_⟩
  have hj' : j < xs.length := by
    have := (List.getElem?_eq_some_iff.1 hj).1
    simpa using this
  rw [List.getElem?_map, it_get xs j hj'] at hj
  have hu : Value.string (it xs j) = u := by simpa using hj
  rw [← hu]
  have hadd : (⟨b, o, none⟩ : Addr).add j = ⟨b, o + j, none⟩ := by
    unfold Addr.add
    by_cases e : j = 0 <;> simp [e]
  rw [hadd]
  exact (hb.cell (p := ⟨b, o + j, none⟩) hbl).trans (hc j hj')
theorem str_one (xs : List ByteArray) : ∀ u ∈ xs.map Value.string, u.oneCell' = true := fun u hu => by
  obtain ⟨x, _, rfl⟩ := List.mem_map.1 hu
  rfl
theorem flatMap_str (xs : List ByteArray) : xs.flatMap Flat.cells = xs.map Value.string := by
  induction xs with
  | nil => rfl
  | cons x r ih =>
    rw [List.flatMap_cons, List.map_cons, ih]
    rfl
theorem row_pos {w : World} {B sz n : Nat} {e : TypeId} {v : Value} {cs : List Value} (h : w.ownsRow B e sz v n cs) (hn : 0 < n) : ∃ g cap, v = .slice (some ⟨g, 0, none⟩) n cap ∧ B ≤ g ∧ g < w.heap.size := by
  rcases h.2 with ⟨_, h0⟩ | ⟨g, cap, cur, hv, _⟩
  · omega
  · exact ⟨g, cap, hv, by subst hv; exact (h.lt g rfl).1, by subst hv; exact (h.lt g rfl).2⟩
/-- The marks of an item without marks. -/
def zer (n : Nat) : List Int := List.replicate n 0
theorem zer_len (n : Nat) : (zer n).length = n := by simp [zer]
theorem imCells {w : World} {b : Nat} {x : Im} (h : ImBox w b x) : w.cell? ⟨b, 0, none⟩ = some (.slice x.A x.ns.length x.c) ∧ w.cell? ⟨b, 1, none⟩ = some (.slice x.L x.ms.length x.d) ∧ w.cell? ⟨b, 2, none⟩ = some (.bool x.late) := ⟨h.c0, h.c1, h.c2⟩
theorem ImBox.three {w : World} {b : Nat} {x : Im} (h : ImBox w b x) (b' : Nat) (hne : b ≠ b') (u0 u1 u2 : Value) : ImBox (((w.setCell ⟨b', 0, none⟩ u0).setCell ⟨b', 1, none⟩ u1).setCell ⟨b', 2, none⟩ u2) b x := by
  have hk : Only (fun i => i = b') w (((w.setCell ⟨b', 0, none⟩ u0).setCell ⟨b', 1, none⟩ u1).setCell ⟨b', 2, none⟩ u2) :=
    Only.put (S := fun i => i = b') (Only.put (S := fun i => i = b') (Only.put (S := fun i => i = b') (Only.refl _ w) b' 0 rfl _) b' 1 rfl _) b' 2 rfl _
  have hb := hk.block b h.lt (fun e => hne e)
  exact ⟨Nat.lt_of_lt_of_le h.lt hk.size, (World.cell?_of_block (a := ⟨b, 0, none⟩) hb).trans h.c0, (World.cell?_of_block (a := ⟨b, 1, none⟩) hb).trans h.c1, (World.cell?_of_block (a := ⟨b, 2, none⟩) hb).trans h.c2⟩
theorem below_adn (w : World) (o : Obj) : Below w.heap.size w (w.alloc o).drew := (below_alloc w o).trans ((below_drew _).mono (by simp))
end Go.Proofs.YtocjkhfghldnnaaDoor
