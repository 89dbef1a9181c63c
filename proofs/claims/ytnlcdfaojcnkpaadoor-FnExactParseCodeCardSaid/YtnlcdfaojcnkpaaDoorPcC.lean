/- The library's Split at one byte and its Atoi, and rows of strings. -/
import Derived.Test.YtnlcdfaojcnkpaaDoorPcB
import Derived.Test.YtnlcdfaojcnkpaaDoorShelf
import Derived.Shelf.Strings.SplitShaped
namespace Go.Proofs.YtnlcdfaojcnkpaaDoor
open Go.ChangeShapes Go.WideShapes Go.ChangeAt Go.RowKit Go.PlainAid Go.Sort
set_option linter.unusedVariables false

theorem idx_none (c : UInt8) : ∀ l : List UInt8, c ∉ l → Lib.index l [c] = -1
  | [], _ => rfl
  | b :: l, h => by
    have hb : ¬ c = b := fun e => h (e ▸ List.mem_cons_self ..)
    have ih := idx_none c l (fun e => h (List.mem_cons_of_mem _ e))
    rw [Lib.index, ih]
    simp [List.isPrefixOf, hb]
theorem idx_hit (c : UInt8) (r : List UInt8) : ∀ p : List UInt8, c ∉ p → Lib.index (p ++ c :: r) [c] = (p.length : Int)
  | [], _ => by rw [List.nil_append, Lib.index]; simp [List.isPrefixOf]
  | b :: p, h => by
    have hb : ¬ c = b := fun e => h (e ▸ List.mem_cons_self ..)
    have ih := idx_hit c r p (fun e => h (List.mem_cons_of_mem _ e))
    have : ((p.length : Int) == -1) = false := by rw [beq_eq_false_iff_ne]; omega
    rw [List.cons_append, Lib.index, ih]
    simp [List.isPrefixOf, hb, this]
theorem noB_of (c : UInt8) {p : List UInt8} (h : c ∉ p) : NoB (c.toNat : Int) p := fun x hx e => h (by
  have : x = c := UInt8.toNat_inj.1 (by omega)
  exact this ▸ hx)
theorem splitK_one (c : UInt8) : ∀ n (l : List UInt8), l.length ≤ n → Lib.splitK [c] 0 (Lib.count l [c]) l = splitL (c.toNat : Int) l := by
  intro n
  induction n with
  | zero =>
    intro l hl
    have : l = [] := List.length_eq_zero_iff.1 (by omega)
    subst this
    rfl
  | succ n ih =>
    intro l hl
    by_cases hc : c ∈ l
    · obtain ⟨p, r, rfl, hp⟩ := List.eq_append_cons_of_mem hc
      have hi := idx_hit c r p hp
      have hk := Lib.count_hit (s := p ++ c :: r) (sub := [c]) (by simp) hi
      have hd : (p ++ c :: r).drop (p.length + [c].length) = r := by simp
      rw [hd] at hk
      rw [hk, Nat.add_comm 1, Lib.splitK, hi, if_neg (by rw [beq_iff_eq]; omega)]
      rw [show ((p.length : Int)).toNat = p.length by omega, hd, ih r (by simp at hl; omega)]
      show _ = splitAux (c.toNat : Int) [] (p ++ c :: r)
      rw [split_once (c.toNat : Int) c rfl p [] r (noB_of c hp)]
      simp [splitL]
    · rw [Lib.count_miss (idx_none c l hc)]
      show [l] = splitAux (c.toNat : Int) [] l
      rw [split_none _ l [] (noB_of c hc)]
      rfl
/-- A row of strings in one block. -/
structure StrAt (w : World) (g : Nat) (ls : List (List UInt8)) : Prop where
  lt : g < w.heap.size
  cell : ∀ i, i < ls.length → w.cell? ⟨g, i, none⟩ = some (strV (it ls i))
theorem StrAt.next {w w' : World} {g : Nat} {ls : List (List UInt8)} (h : StrAt w g ls) (hb : Below w.heap.size w w') : StrAt w' g ls :=
  ⟨Nat.lt_of_lt_of_le h.lt hb.size, fun i hi => (hb.cell (p := ⟨g, i, none⟩) h.lt).trans (h.cell i hi)⟩
theorem StrAt.below {w w' : World} {B g : Nat} {ls : List (List UInt8)} (h : StrAt w g ls) (hg : g < B) (hb : Below B w w') : StrAt w' g ls :=
  ⟨Nat.lt_of_lt_of_le h.lt hb.size, fun i hi => (hb.cell (p := ⟨g, i, none⟩) hg).trans (h.cell i hi)⟩
theorem strAt_of_row {w : World} {B g cap : Nat} {e : TypeId} {ls : List (List UInt8)} (h : w.ownsRow B e 1 (.slice (some ⟨g, 0, none⟩) ls.length cap) ls.length (ls.map strV)) : StrAt w g ls :=
  ⟨(h.lt g rfl).2, fun i hi => by
    rw [h.cellAt i (by omega), List.getElem?_map, it_get ls i hi]
    rfl⟩
theorem strAt_new (w : World) (ls : List (List UInt8)) (t : TypeId) : StrAt (w.alloc (.cells (ls.map strV).toArray t)) w.heap.size ls :=
  ⟨by simp, fun i hi => by simp [it_get ls i hi]⟩
theorem split_size {c : Int} {s : ByteArray} {l : List UInt8} (h : l ∈ splitL c s.data.toList) : l.length ≤ s.size := by
  have := split_len c s.data.toList [] l h
  simpa using this
theorem it_mem {α : Type} [Inhabited α] {xs : List α} {i : Nat} (h : i < xs.length) : it xs i ∈ xs := by
  have := it_get xs i h
  exact List.mem_of_getElem? this
theorem splitB_one (c : UInt8) (s : ByteArray) : (Lib.splitB ⟨#[c]⟩ 0 (Lib.countB s ⟨#[c]⟩) s).map Value.string = (splitL (c.toNat : Int) s.data.toList).map strV := by
  have h := Lib.splitB_data ⟨#[c]⟩ 0 (Lib.countB s ⟨#[c]⟩) s
  rw [show (⟨#[c]⟩ : ByteArray).data.toList = [c] from rfl] at h
  rw [show Lib.countB s ⟨#[c]⟩ = Lib.count s.data.toList [c] from rfl] at h ⊢
  rw [splitK_one c s.data.toList.length s.data.toList (Nat.le_refl _)] at h
  rw [← h, List.map_map]
  apply List.map_congr_left
  intro b _
  show Value.string b = Value.string ⟨b.data.toList.toArray⟩
  rfl
end Go.Proofs.YtnlcdfaojcnkpaaDoor
