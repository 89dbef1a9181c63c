/- Slices of ints that a call has made: marked, held, kept; one contract a function. -/
import Derived.Test.YtnambmpnolkfjaaOneIntsB
namespace Go.Proofs.Ytnambmpnolkfjaa.One
open Go.ChangeShapes Go.WideShapes Go.ChangeAt Go.RowKit
set_option linter.unusedVariables false

/-- At most the blocks from lo up to hi, and new ones, differ. -/
structure Only (lo hi : Nat) (w w' : World) : Prop where
  os : w'.os = w.os
  tape : w'.tape = w.tape
  output : w'.output = w.output
  size : w.heap.size ≤ w'.heap.size
  block : ∀ k, k < w.heap.size → (k < lo ∨ hi ≤ k) → w'.heap[k]? = w.heap[k]?

theorem Only.refl (lo hi : Nat) (w : World) : Only lo hi w w := ⟨rfl, rfl, rfl, Nat.le_refl _, fun _ _ _ => rfl⟩
theorem Only.trans {lo hi : Nat} {a b c : World} (h : Only lo hi a b) (k : Only lo hi b c) : Only lo hi a c :=
  ⟨k.os.trans h.os, k.tape.trans h.tape, k.output.trans h.output, Nat.le_trans h.size k.size, fun i hi hr => (k.block i (Nat.lt_of_lt_of_le hi h.size) hr).trans (h.block i hi hr)⟩
theorem Only.of_below {lo hi B : Nat} {w w' : World} (h : Below B w w') (hB : w.heap.size ≤ B) : Only lo hi w w' :=
  ⟨h.os, h.tape, h.output, h.size, fun k hk _ => h.block k (by omega)⟩
theorem Only.below {lo hi : Nat} {w w' : World} (h : Only lo hi w w') (hB : lo ≤ w.heap.size) : Below lo w w' :=
  ⟨h.os, h.tape, h.output, h.size, fun k hk => h.block k (by omega) (.inl hk)⟩
theorem Only.setCell {lo hi : Nat} {a w : World} (h : Only lo hi a w) {p : Addr} (h1 : lo ≤ p.block) (h2 : p.block < hi) (u : Value) : Only lo hi a (w.setCell p u) :=
  h.trans ⟨rfl, rfl, rfl, by simp [World.setCell], fun k hk hr => Below.heap_setCell _ _ _ _ (by omega)⟩

/-- The slice at A holds the numbers xs at the head of a block from lo on, below hi, that may be written. -/
def Owned (w : World) (lo hi : Nat) (A : Option Addr) (xs : List Int) : Prop :=
  hi ≤ w.heap.size ∧ (0 < xs.length → ∃ g, A = some ⟨g, 0, none⟩ ∧ lo ≤ g ∧ g < hi ∧ ∀ i, i < xs.length → w.cell? ⟨g, i, none⟩ = some (.int .i64 (ix xs i)) ∧ w.frozen? ⟨g, i, none⟩ = false)

theorem Owned.keep {w w' : World} {lo hi lo' hi' : Nat} {A : Option Addr} {xs : List Int} (h : Owned w lo hi A xs) (k : Only lo' hi' w w') (hd : hi ≤ lo' ∨ hi' ≤ lo) : Owned w' lo hi A xs := by
  refine ⟨Nat.le_trans h.1 k.size, fun hp => ?_⟩
  obtain ⟨g, rfl, h1, h2, hc⟩ := h.2 hp
  have hs := h.1
  have hb := k.block g (by omega) (by omega)
  exact ⟨g, rfl, h1, h2, fun i hi => ⟨(World.cell?_of_block (w := w) (a := ⟨g, i, none⟩) hb).trans (hc i hi).1, (World.frozen?_of_block (w := w) (a := ⟨g, i, none⟩) hb).trans (hc i hi).2⟩⟩
theorem Owned.keepB {w w' : World} {lo hi B : Nat} {A : Option Addr} {xs : List Int} (h : Owned w lo hi A xs) (k : Below B w w') (hd : hi ≤ B) : Owned w' lo hi A xs := by
  refine ⟨Nat.le_trans h.1 k.size, fun hp => ?_⟩
  obtain ⟨g, rfl, h1, h2, hc⟩ := h.2 hp
  have hb := k.block g (by omega)
  exact ⟨g, rfl, h1, h2, fun i hi => ⟨(World.cell?_of_block (w := w) (a := ⟨g, i, none⟩) hb).trans (hc i hi).1, (World.frozen?_of_block (w := w) (a := ⟨g, i, none⟩) hb).trans (hc i hi).2⟩⟩
theorem Owned.ints {w : World} {lo hi : Nat} {A : Option Addr} {xs : List Int} (h : Owned w lo hi A xs) : Ints w hi A xs := fun hp => by
  obtain ⟨g, rfl, h1, h2, hc⟩ := h.2 hp
  exact ⟨g, 0, rfl, h2, fun i hi => by rw [Nat.zero_add]; exact (hc i hi).1⟩
theorem Owned.intsUp {w : World} {lo hi : Nat} {A : Option Addr} {xs : List Int} (h : Owned w lo hi A xs) : Ints w w.heap.size A xs := h.ints.up h.1
theorem Owned.none_ (w : World) (lo hi : Nat) (A : Option Addr) (h : hi ≤ w.heap.size) : Owned w lo hi A [] := ⟨h, fun hp => absurd hp (by simp)⟩

/-- The marks from k on. -/
def seqF (k : Int) (n : Nat) : List Int := (List.range n).map fun (i : Nat) => k + (i : Int)
theorem seqF_len (k : Int) (n : Nat) : (seqF k n).length = n := by simp [seqF]
theorem seqF_ix (k : Int) (n i : Nat) (h : i < n) : ix (seqF k n) i = k + (i : Int) := by simp [ix, seqF, h]

/-- The cells of a slice of which j are marked. -/
def Marked (w : World) (g : Nat) (xs : List Int) (k : Int) (j : Nat) : Prop := ∀ i, i < xs.length → w.cell? ⟨g, i, none⟩ = some (.int .i64 (if i < j then k + (i : Int) else ix xs i)) ∧ w.frozen? ⟨g, i, none⟩ = false
theorem Marked.step {w : World} {g : Nat} {xs : List Int} {k : Int} {j : Nat} (h : Marked w g xs k j) (hj : j < xs.length) : Marked (w.setCell ⟨g, j, none⟩ (.int .i64 (k + (j : Int)))) g xs k (j + 1) := fun i hi => by
  obtain ⟨h1, h2⟩ := h i hi
  refine ⟨?_, by rw [World.frozen?_setCell]; exact h2⟩
  by_cases e : i = j
  · subst e
    rw [World.cell?_setCell_same w ⟨g, i, none⟩ _ h1, if_pos (by omega)]
  · rw [World.cell?_setCell_other w _ _ _ (fun h => e (by cases h; rfl)), h1]
    by_cases h3 : i < j
    · rw [if_pos h3, if_pos (by omega)]
    · rw [if_neg h3, if_neg (by omega)]

theorem markIntS_any (A : Option Addr) (c : Nat) (xs : List Int) (k : Int) (w : World) (lo hi : Nat) (hr : Owned w lo hi A xs) (hl : xs.length ≤ 1048576) (hk : 0 ≤ k) (hk2 : k ≤ 1000000000000) :
    Calls Try.prog 31 #[.slice A xs.length c, .int .i64 k] w fun e w' => e = .returned (.int .i64 (k + (xs.length : Int))) ∧ Owned w' lo hi A (seqF k xs.length) ∧ Only lo hi w w' := by
  rcases Nat.eq_zero_or_pos xs.length with h0 | h0
  · obtain rfl : xs = [] := List.eq_nil_of_length_eq_zero h0
    have HR := Lib.hid hr.1
    clear hr h0
    go_enter Try.func31, Try.ntmps31
    go_wp2
    go_loop [1, 5] (fun q i => i = .int .i64 0 ∧ q = .int .i64 k) (fun _ _ => 0)
    case atStart => exact ⟨rfl, rfl⟩
    case round =>
      obtain ⟨rfl, rfl⟩ := hrel
      go_wp2
      go_ret
      exact ⟨by simp, Owned.none_ _ _ _ _ HR.out, Only.refl _ _ _⟩
  · obtain ⟨g, rfl, hg1, hg2, hc⟩ := hr.2 h0
    have hm0 : Marked w g xs k 0 := fun i hi => by rw [if_neg (by omega)]; exact hc i hi
    have HS := Lib.hid hr.1
    clear hr hc
    go_enter Try.func31, Try.ntmps31
    go_wp2
    go_loopw [1, 5] (fun q i wr => ∃ j : Nat, j ≤ xs.length ∧ i = .int .i64 j ∧ q = .int .i64 (k + (j : Int)) ∧ Marked wr g xs k j ∧ Only lo hi w wr) (fun _ i _ => xs.length - (intOf i).toNat)
    case atStart => exact ⟨0, Nat.zero_le _, rfl, by simp, hm0, Only.refl _ _ _⟩
    case round =>
      obtain ⟨j, hj, rfl, rfl, hm, ho⟩ := hrel
      by_cases hlt : j < xs.length
      · obtain ⟨hcw, hfw⟩ := hm j hlt
        have HM := Lib.hid hm
        have HO := Lib.hid ho
        clear hm ho hm0
        go_wp2
        go_roundw
        case rel => exact ⟨j + 1, by omega, by go_num, by go_num, HM.out.step hlt, HO.out.setCell hg1 hg2 _⟩
        case measure => simp [intOf]; omega
      · obtain rfl : j = xs.length := by omega
        have HM := Lib.hid hm
        have HO := Lib.hid ho
        clear hm ho hm0
        go_wp2
        go_ret
        refine ⟨rfl, ⟨Nat.le_trans HS.out HO.out.size, fun _ => ⟨g, rfl, hg1, hg2, fun i hi => ?_⟩⟩, HO.out⟩
        rw [seqF_len] at hi
        obtain ⟨h1, h2⟩ := HM.out i hi
        rw [if_pos hi] at h1
        rw [seqF_ix _ _ _ hi]
        exact ⟨h1, h2⟩

theorem heldIntS_any (A : Option Addr) (c n : Nat) (k : Int) (w : World) (B : Nat) (hr : Ints w B A (seqF k n)) (hl : n ≤ 1048576) (hk : 0 ≤ k) (hk2 : k ≤ 1000000000000) :
    Calls Try.prog 32 #[.slice A n c, .int .i64 k] w fun e w' => e = .returned (.int .i64 (k + (n : Int))) ∧ w = w' := by
  have HR := Lib.hid hr
  clear hr
  go_enter Try.func32, Try.ntmps32
  go_wp2
  go_loop [1, 5] (fun q i => ∃ j : Nat, j ≤ n ∧ i = .int .i64 j ∧ q = .int .i64 (k + (j : Int))) (fun _ i => n - (intOf i).toNat)
  case atStart => exact ⟨0, Nat.zero_le _, rfl, by simp⟩
  case round =>
    obtain ⟨j, hj, rfl, rfl⟩ := hrel
    by_cases hlt : j < n
    · obtain ⟨b, o, rfl, hb, hc⟩ := HR.out (by rw [seqF_len]; omega)
      have hck := hc j (by rw [seqF_len]; omega)
      rw [seqF_ix _ _ _ hlt] at hck
      clear hc
      go_wp2
      go_round
      case rel => exact ⟨j + 1, by omega, by go_num, by go_num⟩
      case measure => simp [intOf]; omega
    · obtain rfl : j = n := by omega
      go_wp2
      go_ret
      exact ⟨rfl, rfl⟩
end Go.Proofs.Ytnambmpnolkfjaa.One
