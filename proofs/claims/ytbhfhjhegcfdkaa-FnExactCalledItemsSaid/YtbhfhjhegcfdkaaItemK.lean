/- An item without marks, in the model. -/
import Derived.Test.YtbhfhjhegcfdkaaItemC
import Derived.Test.YtbhfhjhegcfdkaaApp
import Derived.Test.YtbhfhjhegcfdkaaAppN
import Derived.Deep.RegionHeld3
namespace Go.Proofs.Ytbhfhjhegcfdkaa
open Go.ChangeShapes Go.WideShapes Go.ChangeAt Go.RowKit Go.PlainAid
set_option linter.unusedVariables false

theorem stop_body {P : Program} {f : Func} {R : Ending → World → Prop} {x : Exit} {a : Act} {w : World} (h : Stop (∀ w', w' = w → bodyPost P f R x a w')) : bodyPost P f R x a w := h.of w rfl
theorem str_src {w W : World} {B : Nat} {A : Option Addr} {xs : List ByteArray} (h : Lst w B A xs) (hb : Below B w W) : 0 < xs.length → ∃ ad, A = some ad ∧ ∀ j u, (xs.map Value.string)[j]? = some u → W.cell? (ad.add j) = some u := fun hp => by
  obtain ⟨b, o, rfl, hbl, hc⟩ := h.str hp
  refine ⟨_, rfl, fun j u hj => ?_⟩
  have hj' : j < xs.length := by
    have := (List.getElem?_eq_some_iff.1 hj).1
    simpa using this
  rw [List.getElem?_map, it_get xs j hj'] at hj
  have hu : Value.string (it xs j) = u := by simpa using hj
  rw [← hu]
  have hadd : (⟨b, o, none⟩ : Addr).add j = ⟨b, o + j, none⟩ := by
    unfold Addr.add
    by_cases e : j = 0 <;> simp [e]
  rw [hadd]
  exact (hb.cell (p := ⟨b, o + j, none⟩) hbl).trans (hc j hj')
theorem str_one (xs : List ByteArray) : ∀ u ∈ xs.map Value.string, u.oneCell' = true := fun u hu => by
  obtain ⟨x, _, rfl⟩ := List.mem_map.1 hu
  rfl
theorem flatMap_str (xs : List ByteArray) : xs.flatMap Flat.cells = xs.map Value.string := by
  induction xs with
  | nil => rfl
  | cons x r ih =>
    rw [List.flatMap_cons, List.map_cons, ih]
    rfl
theorem row_pos {w : World} {B sz n : Nat} {e : TypeId} {v : Value} {cs : List Value} (h : w.ownsRow B e sz v n cs) (hn : 0 < n) : ∃ g cap, v = .slice (some ⟨g, 0, none⟩) n cap ∧ B ≤ g ∧ g < w.heap.size := by
  rcases h.2 with ⟨_, h0⟩ | ⟨g, cap, cur, hv, _⟩
  · omega
  · exact ⟨g, cap, hv, by subst hv; exact (h.lt g rfl).1, by subst hv; exact (h.lt g rfl).2⟩
theorem l1OwnS_any (A : Option Addr) (c : Nat) (l : List ByteArray) (w : World) (hr : Lst w w.heap.size A l) (hl : l.length ≤ 1048576) (hp : 0 < l.length) :
    Calls Try.prog 63 #[.slice A l.length c] w fun e w' => ∃ g cap, e = .returned (.slice (some ⟨g, 0, none⟩) l.length cap) ∧ OwnAt w' g 0 l ∧ w.heap.size ≤ g ∧ g < w'.heap.size ∧ Below w.heap.size w w' := by
  obtain ⟨i0, hi, hz0, hz1, hz2⟩ := info_parts Try.infoStr
  have HZ := Lib.hid (And.intro hi (And.intro hz0 (And.intro hz1 hz2)))
  have HR := Lib.hid hr
  clear hi hz0 hz1 hz2 hr
  go_enter Try.func63, Try.ntmps63
  go_wp2_with (at_builtin; refine wpList_append_src _ rfl (.tmp 3) (.tmp 4) 53 rfl w.heap.size 9 i0 (.string ⟨#[]⟩) 16 Try.underlying53 HZ.out.1 HZ.out.2.1 HZ.out.2.2.1 HZ.out.2.2.2 rfl (.slice (some ⟨w.heap.size, 0, none⟩) 0 0) 0 [] rfl (owns_emptyN _ _ _ _ _ (Nat.le_refl _) (heap_at_new _ _ _ rfl)) A l.length c (l.map Value.string) rfl (by simp) (str_src HR.out (below_alloc _ _)) (str_one l) (by unfold maxLen; omega) (by omega) (by simp) ?_; intro v1 w1 hown1 hgrow1 hat1; have HOWN1 := Lib.hid hown1; have HG1 := Lib.hid hgrow1; clear hown1 hgrow1 hat1)
  go_ret
  have ho : w1.ownsRow w.heap.size 9 1 v1 l.length (l.map Value.string) := by
    have := HOWN1.out
    rwa [Nat.zero_add, List.nil_append] at this
  obtain ⟨g, cap, rfl, h1, h2⟩ := row_pos ho hp
  refine ⟨g, cap, rfl, own_of_row (α := ByteArray) (cap := cap) (e := 9) (base := w.heap.size) l ?_, h1, h2, ?_⟩
  · rw [flatMap_str]
    exact ho
  · exact Below.grown (below_alloc _ _) HG1.out (by simp) (fun kk e => by simp [Value.ownBlock] at e; omega)

/-- The marks of an item without marks. -/
def zer (n : Nat) : List Int := List.replicate n 0
theorem zer_len (n : Nat) : (zer n).length = n := by simp [zer]
theorem imCells {w : World} {b : Nat} {x : Im} (h : ImBox w b x) : w.cell? ⟨b, 0, none⟩ = some (.slice x.A x.ns.length x.c) ∧ w.cell? ⟨b, 1, none⟩ = some (.slice x.L x.ms.length x.d) ∧ w.cell? ⟨b, 2, none⟩ = some (.bool x.late) := ⟨h.c0, h.c1, h.c2⟩
theorem ImBox.three {w : World} {b : Nat} {x : Im} (h : ImBox w b x) (b' : Nat) (hne : b ≠ b') (u0 u1 u2 : Value) : ImBox (((w.setCell ⟨b', 0, none⟩ u0).setCell ⟨b', 1, none⟩ u1).setCell ⟨b', 2, none⟩ u2) b x := by
  have hk : Only (fun i => i = b') w (((w.setCell ⟨b', 0, none⟩ u0).setCell ⟨b', 1, none⟩ u1).setCell ⟨b', 2, none⟩ u2) :=
    Only.put (S := fun i => i = b') (Only.put (S := fun i => i = b') (Only.put (S := fun i => i = b') (Only.refl _ w) b' 0 rfl _) b' 1 rfl _) b' 2 rfl _
  have hb := hk.block b h.lt (fun e => hne e)
  exact ⟨Nat.lt_of_lt_of_le h.lt hk.size, (World.cell?_of_block (a := ⟨b, 0, none⟩) hb).trans h.c0, (World.cell?_of_block (a := ⟨b, 1, none⟩) hb).trans h.c1, (World.cell?_of_block (a := ⟨b, 2, none⟩) hb).trans h.c2⟩
theorem below_adn (w : World) (o : Obj) : Below w.heap.size w (w.alloc o).drew := (below_alloc w o).trans ((below_drew _).mono (by simp))
end Go.Proofs.Ytbhfhjhegcfdkaa
