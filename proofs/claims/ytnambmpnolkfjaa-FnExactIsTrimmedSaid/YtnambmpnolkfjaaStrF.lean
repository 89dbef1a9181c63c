/- Slices of strings: measured, copied, compared, marked, held. -/
import Derived.Test.YtnambmpnolkfjaaMarkT
import Derived.RegionTactic
import Derived.Deep.RegionHeld3
namespace Go.Proofs.Ytnambmpnolkfjaa
open Go.ChangeShapes Go.WideShapes Go.ChangeAt Go.RowKit
set_option linter.unusedVariables false

def strCells (x : ByteArray) : List Value := [.string x]
instance : Flat ByteArray where
  default := ⟨#[]⟩
  sz := 1
  cells := strCells
  len := fun _ => rfl
structure StrOwn (w : World) (b o : Nat) (x : ByteArray) : Prop where
  c0 : w.cell? ⟨b, o, none⟩ = some (.string x)
  f0 : w.frozen? ⟨b, o, none⟩ = false
theorem Lst.str {w : World} {B : Nat} {A : Option Addr} {xs : List ByteArray} (h : Lst w B A xs) (hp : 0 < xs.length) : ∃ b o, A = some ⟨b, o, none⟩ ∧ b < B ∧ ∀ i, i < xs.length → w.cell? ⟨b, o + i, none⟩ = some (.string (it xs i)) := by
  obtain ⟨b, o, h1, h2, h3⟩ := h hp
  refine ⟨b, o, h1, h2, fun i hi => ?_⟩
  have := h3 i hi 0 _ rfl
  rwa [show o + i * Flat.sz ByteArray + 0 = o + i by show o + i * 1 + 0 = _; omega] at this
theorem Lst.of_str {w : World} {B : Nat} {A : Option Addr} {xs : List ByteArray} (h : 0 < xs.length → ∃ b o, A = some ⟨b, o, none⟩ ∧ b < B ∧ ∀ i, i < xs.length → w.cell? ⟨b, o + i, none⟩ = some (.string (it xs i))) : Lst w B A xs := fun hp => by
  obtain ⟨b, o, h1, h2, h3⟩ := h hp
  refine ⟨b, o, h1, h2, fun i hi j v hv => ?_⟩
  match j, hv with
  | 0, hv =>
    obtain rfl : Value.string (it xs i) = v := by injection hv
    rw [show o + i * Flat.sz ByteArray + 0 = o + i by show o + i * 1 + 0 = _; omega]
    exact h3 i hi
theorem OwnAt.str {w : World} {g o : Nat} {xs : List ByteArray} (h : OwnAt w g o xs) (i : Nat) (hi : i < xs.length) : StrOwn w g (o + i) (it xs i) := by
  have h1 := h.cell i hi 0 _ rfl
  have h2 := h.free i 0 hi (by decide)
  rw [show o + i * Flat.sz ByteArray + 0 = o + i by show o + i * 1 + 0 = _; omega] at h1 h2
  exact ⟨h1, h2⟩
theorem OwnAt.str0 {w : World} {g : Nat} {xs : List ByteArray} (h : OwnAt w g 0 xs) (i : Nat) (hi : i < xs.length) : StrOwn w g i (it xs i) := by
  have := h.str i hi
  rwa [Nat.zero_add] at this
theorem OwnAt.putStr {w : World} {g o : Nat} {xs : List ByteArray} (h : OwnAt w g o xs) (i : Nat) (x : ByteArray) (hi : i < xs.length) : OwnAt (w.setCell ⟨g, o + i, none⟩ (.string x)) g o (xs.set i x) := by
  have := h.put i x hi
  rw [show putAt g (o + i * Flat.sz ByteArray) w 0 (Flat.cells x) = w.setCell ⟨g, o + i, none⟩ (.string x) by
    show w.setCell ⟨g, o + i * 1 + 0, none⟩ (.string x) = _
    rw [Nat.mul_one, Nat.add_zero]] at this
  exact this
theorem OwnAt.putStr0 {w : World} {g : Nat} {xs : List ByteArray} (h : OwnAt w g 0 xs) (i : Nat) (x : ByteArray) (hi : i < xs.length) : OwnAt (w.setCell ⟨g, i, none⟩ (.string x)) g 0 (xs.set i x) := by
  have := h.putStr i x hi
  rwa [Nat.zero_add] at this
theorem Try.infoStr : (Try.prog.info? 9).map (fun i => (i.zero, i.size, i.bytes)) = some (some (.string ⟨#[]⟩), 1, 16) := by kernel_rfl

/-- At most a million strings of at most a million bytes. -/
def SFits (xs : List ByteArray) : Prop := xs.length ≤ 1048576 ∧ ∀ i, i < xs.length → (it xs i).size ≤ 1048576
/-- What the memory can hold. -/
def SLen (xs : List ByteArray) : Prop := xs.length ≤ 9223372036854775807 ∧ ∀ i, i < xs.length → (it xs i).size ≤ 9223372036854775807

/-- The texts of the marks from k on. -/
def seqS (k n : Nat) : List ByteArray := (List.range n).map fun i => mkText (k + i)
theorem seqS_len (k n : Nat) : (seqS k n).length = n := by simp [seqS]
theorem seqS_it (k n i : Nat) (h : i < n) : it (seqS k n) i = mkText (k + i) := by
  unfold it seqS
  simp [h]

end Go.Proofs.Ytnambmpnolkfjaa
