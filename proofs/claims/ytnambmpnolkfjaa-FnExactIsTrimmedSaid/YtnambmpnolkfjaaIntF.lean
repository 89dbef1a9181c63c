/- Slices of ints: copied, compared, marked, held. -/
import Derived.Test.YtnambmpnolkfjaaFlat
namespace Go.Proofs.Ytnambmpnolkfjaa
open Go.ChangeShapes Go.WideShapes Go.ChangeAt Go.RowKit
set_option linter.unusedVariables false

def intCells (x : Int) : List Value := [.int .i64 x]
instance : Flat Int where
  sz := 1
  cells := intCells
  len := fun _ => rfl
structure IntOwn (w : World) (b o : Nat) (x : Int) : Prop where
  c0 : w.cell? ⟨b, o, none⟩ = some (.int .i64 x)
  f0 : w.frozen? ⟨b, o, none⟩ = false
theorem Lst.int {w : World} {B : Nat} {A : Option Addr} {xs : List Int} (h : Lst w B A xs) (hp : 0 < xs.length) : ∃ b o, A = some ⟨b, o, none⟩ ∧ b < B ∧ ∀ i, i < xs.length → w.cell? ⟨b, o + i, none⟩ = some (.int .i64 (it xs i)) := by
  obtain ⟨b, o, h1, h2, h3⟩ := h hp
  refine ⟨b, o, h1, h2, fun i hi => ?_⟩
  have := h3 i hi 0 _ rfl
  rwa [show o + i * Flat.sz Int + 0 = o + i by show o + i * 1 + 0 = _; omega] at this
theorem Lst.of_int {w : World} {B : Nat} {A : Option Addr} {xs : List Int} (h : 0 < xs.length → ∃ b o, A = some ⟨b, o, none⟩ ∧ b < B ∧ ∀ i, i < xs.length → w.cell? ⟨b, o + i, none⟩ = some (.int .i64 (it xs i))) : Lst w B A xs := fun hp => by
  obtain ⟨b, o, h1, h2, h3⟩ := h hp
  refine ⟨b, o, h1, h2, fun i hi j v hv => ?_⟩
  match j, hv with
  | 0, hv =>
    obtain rfl : Value.int .i64 (it xs i) = v := by injection hv
    rw [show o + i * Flat.sz Int + 0 = o + i by show o + i * 1 + 0 = _; omega]
    exact h3 i hi
theorem OwnAt.int {w : World} {g o : Nat} {xs : List Int} (h : OwnAt w g o xs) (i : Nat) (hi : i < xs.length) : IntOwn w g (o + i) (it xs i) := by
  have h1 := h.cell i hi 0 _ rfl
  have h2 := h.free i 0 hi (by decide)
  rw [show o + i * Flat.sz Int + 0 = o + i by show o + i * 1 + 0 = _; omega] at h1 h2
  exact ⟨h1, h2⟩
theorem OwnAt.int0 {w : World} {g : Nat} {xs : List Int} (h : OwnAt w g 0 xs) (i : Nat) (hi : i < xs.length) : IntOwn w g i (it xs i) := by
  have := h.int i hi
  rwa [Nat.zero_add] at this
theorem OwnAt.putInt {w : World} {g o : Nat} {xs : List Int} (h : OwnAt w g o xs) (i : Nat) (x : Int) (hi : i < xs.length) : OwnAt (w.setCell ⟨g, o + i, none⟩ (.int .i64 x)) g o (xs.set i x) := by
  have := h.put i x hi
  rw [show putAt g (o + i * Flat.sz Int) w 0 (Flat.cells x) = w.setCell ⟨g, o + i, none⟩ (.int .i64 x) by
    show w.setCell ⟨g, o + i * 1 + 0, none⟩ (.int .i64 x) = _
    rw [Nat.mul_one, Nat.add_zero]] at this
  exact this
theorem OwnAt.putInt0 {w : World} {g : Nat} {xs : List Int} (h : OwnAt w g 0 xs) (i : Nat) (x : Int) (hi : i < xs.length) : OwnAt (w.setCell ⟨g, i, none⟩ (.int .i64 x)) g 0 (xs.set i x) := by
  have := h.putInt i x hi
  rwa [Nat.zero_add] at this
theorem Try.infoInt : (Try.prog.info? 3).map (fun i => (i.zero, i.size, i.bytes)) = some (some (.int .i64 0), 1, 8) := by kernel_rfl

theorem szIntS_any (A : Option Addr) (c : Nat) (xs : List Int) (left : Int) (w : World) (hl : xs.length ≤ 9223372036854775807) (h0 : 0 ≤ left) (h1 : left ≤ 1048576) :
    Calls Try.prog 99 #[.slice A xs.length c, .int .i64 left] w fun e w' => (∃ q : Int, e = .returned (.int .i64 q) ∧ (q < 0 ∨ 0 ≤ q ∧ q ≤ left ∧ xs.length ≤ 1048576)) ∧ w' = w := by
  go_enter Try.func99, Try.ntmps99
  by_cases h : left - (xs.length : Int) < 0
  · go_wp2
    go_ret
    exact ⟨⟨_, rfl, by omega⟩, rfl⟩
  · go_wp2
    go_ret
    exact ⟨⟨_, rfl, by omega⟩, rfl⟩

theorem toIntS_any (A : Option Addr) (c : Nat) (xs : List Int) (w : World) (hr : Lst w w.heap.size A xs) (hl : xs.length ≤ 1048576) :
    Calls Try.prog 16 #[.slice A xs.length c] w fun e w' => e = .returned (.slice (some ⟨w.heap.size, 0, none⟩) xs.length xs.length) ∧ OwnAt w' w.heap.size 0 xs ∧ w.heap.size < w'.heap.size ∧ Below w.heap.size w w' := by
  have HR := Lib.hid hr
  clear hr
  obtain ⟨i0, hi, hz0, hz1, hz2⟩ := info_parts Try.infoInt
  have HZ := Lib.hid (made_flat (α := Int) #[.int .i64 0] 0 xs.length rfl (by decide))
  go_enter Try.func16, Try.ntmps16
  go_wp2_with (at_make; refine wpList_make_full _ rfl (.tmp 6) (.tmp 6) 22 rfl w.heap.size 3 i0 (.int .i64 0) 1 Try.underlying22 hi hz0 hz1 .i64 .i64 _ _ xs.length rfl rfl rfl rfl (by rw [hz2]; omega) (by unfold maxLen; omega) (Nat.le_refl _) ?_; intro w1 hown hgrow)
  have HW := Lib.hid (show OwnAt w1 w.heap.size 0 (List.replicate xs.length (0 : Int)) from own_of_row (α := Int) (cap := xs.length) (e := 3) (base := w.heap.size) _ (by rw [← HZ.out, List.length_replicate]; exact hown))
  have hb1 : Below w.heap.size w w1 := (Below.refl _ _).grown hgrow (Nat.le_refl _) (fun k e => by cases e)
  have hs1 := (hown.lt w.heap.size rfl).2
  have HB1 := Lib.hid hb1
  clear hown hgrow hb1
  go_wp2
  go_loopw [4] (fun i wr => ∃ (k : Nat) (ys : List Int), k ≤ xs.length ∧ i = .int .i64 k ∧ ys.length = xs.length ∧ Hid (∀ i, i < k → it ys i = it xs i) ∧ Hid (OwnAt wr w.heap.size 0 ys) ∧ w.heap.size < wr.heap.size ∧ Below w.heap.size w wr) (fun i _ => xs.length - (intOf i).toNat)
  case atStart => exact ⟨0, _, Nat.zero_le _, rfl, by rw [List.length_replicate], Lib.hid (fun i hi => absurd hi (by omega)), HW, hs1, HB1.out⟩
  case round =>
    obtain ⟨k, ys, hk, rfl, hy, HI, HO, hs, hb⟩ := hrel
    by_cases hlt : k < xs.length
    · obtain ⟨b, o, rfl, hbl, hc⟩ := HR.out.int (by omega)
      have c0 := (hb.cell (p := ⟨b, o + k, none⟩) hbl).trans (hc k hlt)
      obtain ⟨d0, f0⟩ := HO.out.int0 k (by omega)
      have HP := Lib.hid (HO.out.putInt0 k (it xs k) (by omega))
      have HB := Lib.hid hb
      clear hc hb
      go_wp2
      go_roundw
      case rel => exact ⟨k + 1, _, by omega, by go_num, by rw [List.length_set]; exact hy, Lib.hid (fun i hi => by
        rw [it_set _ _ _ _ (by omega)]
        by_cases e : i = k
        · rw [if_pos e, e]
        · rw [if_neg e]; exact HI.out i (by omega)), HP, by simpa [World.setCell] using hs, HB.out.setCell (Nat.le_refl _) _⟩
      case measure => simp [intOf]; omega
    · obtain rfl : k = xs.length := by omega
      obtain rfl : ys = xs := it_ext _ _ hy (fun i hi => HI.out i (by omega))
      go_wp2
      go_ret
      exact ⟨rfl, HO.out, hs, hb⟩

theorem eqIntS_yes (A A' : Option Addr) (c c' : Nat) (xs : List Int) (w : World) (hr : Lst w w.heap.size A xs) (hr' : Lst w w.heap.size A' xs) (hl : xs.length ≤ 1048576) :
    Calls Try.prog 18 #[.slice A xs.length c, .slice A' xs.length c'] w fun e w' => e = .returned (.bool true) ∧ ∃ n, w' = w.drewN n := by
  have HR := Lib.hid hr
  have HR' := Lib.hid hr'
  clear hr hr'
  go_enter Try.func18, Try.ntmps18
  go_wp2
  go_loopw [5] (fun i wr => ∃ k n : Nat, k ≤ xs.length ∧ i = .int .i64 k ∧ wr = w.drewN n) (fun i _ => xs.length - (intOf i).toNat)
  case atStart => exact ⟨0, 0, Nat.zero_le _, rfl, rfl⟩
  case round =>
    obtain ⟨k, n, hk, rfl, rfl⟩ := hrel
    by_cases hlt : k < xs.length
    · obtain ⟨b, o, rfl, hbl, hc⟩ := HR.out.int (by omega)
      obtain ⟨b', o', rfl, hbl', hc'⟩ := HR'.out.int (by omega)
      have hck := hc k hlt
      have hck' := hc' k hlt
      have hi1 : (0 : Int) ≤ (k : Int) := by omega
      have hi2 : (k : Int) < (xs.length : Int) := by omega
      clear hc hc'
      go_wp2
      go_quiet (fail)
      go_wp2
      go_roundw
      case rel => exact ⟨k + 1, _, by omega, by go_num, rfl⟩
      case measure => simp [intOf]; omega
    · go_wp2
      go_ret
      exact ⟨rfl, _, rfl⟩

/-- The marks from k on. -/
def seqF (k : Int) (n : Nat) : List Int := (List.range n).map fun (i : Nat) => k + (i : Int)
theorem seqF_len (k : Int) (n : Nat) : (seqF k n).length = n := by simp [seqF]
theorem seqF_it (k : Int) (n i : Nat) (h : i < n) : it (seqF k n) i = k + (i : Int) := by
  unfold it seqF
  simp [h]

theorem markIntS_any (S : Nat → Prop) (A : Option Addr) (c : Nat) (xs : List Int) (k : Int) (w : World) (hr : Owned S w A xs) (hl : xs.length ≤ 1048576) (hk : 0 ≤ k) (hk2 : k ≤ 10000000000000000) :
    Calls Try.prog 31 #[.slice A xs.length c, .int .i64 k] w fun e w' => e = .returned (.int .i64 (k + (xs.length : Int))) ∧ Owned S w' A (seqF k xs.length) ∧ Only S w w' := by
  rcases Nat.eq_zero_or_pos xs.length with h0 | h0
  · obtain rfl : xs = [] := List.eq_nil_of_length_eq_zero h0
    clear hr h0
    go_enter Try.func31, Try.ntmps31
    go_wp2
    go_loop [1, 5] (fun q i => i = .int .i64 0 ∧ q = .int .i64 k) (fun _ _ => 0)
    case atStart => exact ⟨rfl, rfl⟩
    case round =>
      obtain ⟨rfl, rfl⟩ := hrel
      go_wp2
      go_ret
      exact ⟨by simp, Owned.nil _ _ _, Only.refl _ _⟩
  · obtain ⟨g, o, rfl, hg1, hg2, hc⟩ := hr h0
    have HG := Lib.hid hg1
    have HC := Lib.hid hc
    clear hr hc hg1
    go_enter Try.func31, Try.ntmps31
    go_wp2
    go_loopw [1, 5] (fun q i wr => ∃ (j : Nat) (ys : List Int), j ≤ xs.length ∧ i = .int .i64 j ∧ q = .int .i64 (k + (j : Int)) ∧ ys.length = xs.length ∧ Hid (∀ i : Nat, i < j → it ys i = k + (i : Int)) ∧ Hid (OwnAt wr g o ys) ∧ Only S w wr) (fun _ i _ => xs.length - (intOf i).toNat)
    case atStart => exact ⟨0, xs, Nat.zero_le _, rfl, by simp, rfl, Lib.hid (fun i hi => absurd hi (by omega)), HC, Only.refl _ _⟩
    case round =>
      obtain ⟨j, ys, hj, rfl, rfl, hy, HI, HO, ho⟩ := hrel
      have HN := Lib.hid ho
      clear ho
      by_cases hlt : j < xs.length
      · obtain ⟨d0, f0⟩ := HO.out.int j (by omega)
        have HP := Lib.hid (HO.out.putInt j (k + (j : Int)) (by omega))
        go_wp2
        go_roundw
        case rel => exact ⟨j + 1, _, by omega, by go_num, by go_num, by rw [List.length_set]; exact hy, Lib.hid (fun i hi => by
          rw [it_set _ _ _ _ (by omega)]
          by_cases e : i = j
          · rw [if_pos e, e]
          · rw [if_neg e]; exact HI.out i (by omega)), HP, HN.out.setCell HG.out _⟩
        case measure => simp [intOf]; omega
      · obtain rfl : j = xs.length := by omega
        obtain rfl : ys = seqF k xs.length := it_ext _ _ (by rw [seqF_len]; exact hy) (fun i hi => by rw [seqF_it _ _ _ (by omega)]; exact HI.out i (by omega))
        go_wp2
        go_ret
        exact ⟨rfl, fun _ => ⟨g, o, rfl, HG.out, Nat.lt_of_lt_of_le hg2 HN.out.size, HO.out⟩, HN.out⟩

theorem heldIntS_any (A : Option Addr) (c n : Nat) (k : Int) (w : World) (B : Nat) (hr : Lst w B A (seqF k n)) (hl : n ≤ 1048576) (hk : 0 ≤ k) (hk2 : k ≤ 10000000000000000) :
    Calls Try.prog 32 #[.slice A n c, .int .i64 k] w fun e w' => e = .returned (.int .i64 (k + (n : Int))) ∧ w' = w := by
  have HR := Lib.hid hr
  clear hr
  go_enter Try.func32, Try.ntmps32
  go_wp2
  go_loop [1, 5] (fun q i => ∃ j : Nat, j ≤ n ∧ i = .int .i64 j ∧ q = .int .i64 (k + (j : Int))) (fun _ i => n - (intOf i).toNat)
  case atStart => exact ⟨0, Nat.zero_le _, rfl, by simp⟩
  case round =>
    obtain ⟨j, hj, rfl, rfl⟩ := hrel
    by_cases hlt : j < n
    · obtain ⟨b, o, rfl, hb, hc⟩ := HR.out.int (by rw [seqF_len]; omega)
      have hck := hc j (by rw [seqF_len]; omega)
      rw [seqF_it _ _ _ hlt] at hck
      clear hc
      go_wp2
      go_round
      case rel => exact ⟨j + 1, by omega, by go_num, by go_num⟩
      case measure => simp [intOf]; omega
    · obtain rfl : j = n := by omega
      go_wp2
      go_ret
      exact ⟨rfl, rfl⟩
end Go.Proofs.Ytnambmpnolkfjaa
