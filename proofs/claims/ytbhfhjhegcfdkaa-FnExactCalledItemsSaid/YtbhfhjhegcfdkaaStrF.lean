/- Slices of strings: measured, copied, compared, marked, held. -/
import Derived.Test.YtbhfhjhegcfdkaaMarkT
import Derived.RegionTactic
import Derived.Deep.RegionHeld3
namespace Go.Proofs.Ytbhfhjhegcfdkaa
open Go.ChangeShapes Go.WideShapes Go.ChangeAt Go.RowKit
set_option linter.unusedVariables false

def strCells (x : ByteArray) : List Value := [.string x]
instance : Flat ByteArray where
  default := ⟨#[]⟩
  sz := 1
  cells := strCells
  len := fun _ => rfl
structure StrOwn (w : World) (b o : Nat) (x : ByteArray) : Prop where
  c0 : w.cell? ⟨b, o, none⟩ = some (.string x)
  f0 : w.frozen? ⟨b, o, none⟩ = false
theorem Lst.str {w : World} {B : Nat} {A : Option Addr} {xs : List ByteArray} (h : Lst w B A xs) (hp : 0 < xs.length) : ∃ b o, A = some ⟨b, o, none⟩ ∧ b < B ∧ ∀ i, i < xs.length → w.cell? ⟨b, o + i, none⟩ = some (.string (it xs i)) := by
  obtain ⟨b, o, h1, h2, h3⟩ := h hp
  refine ⟨b, o, h1, h2, fun i hi => ?_⟩
  have := h3 i hi 0 _ rfl
  rwa [show o + i * Flat.sz ByteArray + 0 = o + i by show o + i * 1 + 0 = _; omega] at this
theorem Lst.of_str {w : World} {B : Nat} {A : Option Addr} {xs : List ByteArray} (h : 0 < xs.length → ∃ b o, A = some ⟨b, o, none⟩ ∧ b < B ∧ ∀ i, i < xs.length → w.cell? ⟨b, o + i, none⟩ = some (.string (it xs i))) : Lst w B A xs := fun hp => by
  obtain ⟨b, o, h1, h2, h3⟩ := h hp
  refine ⟨b, o, h1, h2, fun i hi j v hv => ?_⟩
  match j, hv with
  | 0, hv =>
    obtain rfl : Value.string (it xs i) = v := by injection hv
    rw [show o + i * Flat.sz ByteArray + 0 = o + i by show o + i * 1 + 0 = _; omega]
    exact h3 i hi
theorem OwnAt.str {w : World} {g o : Nat} {xs : List ByteArray} (h : OwnAt w g o xs) (i : Nat) (hi : i < xs.length) : StrOwn w g (o + i) (it xs i) := by
  have h1 := h.cell i hi 0 _ rfl
  have h2 := h.free i 0 hi (by decide)
  rw [show o + i * Flat.sz ByteArray + 0 = o + i by show o + i * 1 + 0 = _; omega] at h1 h2
  exact ⟨h1, h2⟩
theorem OwnAt.str0 {w : World} {g : Nat} {xs : List ByteArray} (h : OwnAt w g 0 xs) (i : Nat) (hi : i < xs.length) : StrOwn w g i (it xs i) := by
  have := h.str i hi
  rwa [Nat.zero_add] at this
theorem OwnAt.putStr {w : World} {g o : Nat} {xs : List ByteArray} (h : OwnAt w g o xs) (i : Nat) (x : ByteArray) (hi : i < xs.length) : OwnAt (w.setCell ⟨g, o + i, none⟩ (.string x)) g o (xs.set i x) := by
  have := h.put i x hi
  rw [show putAt g (o + i * Flat.sz ByteArray) w 0 (Flat.cells x) = w.setCell ⟨g, o + i, none⟩ (.string x) by
    show w.setCell ⟨g, o + i * 1 + 0, none⟩ (.string x) = _
    rw [Nat.mul_one, Nat.add_zero]] at this
  exact this
theorem OwnAt.putStr0 {w : World} {g : Nat} {xs : List ByteArray} (h : OwnAt w g 0 xs) (i : Nat) (x : ByteArray) (hi : i < xs.length) : OwnAt (w.setCell ⟨g, i, none⟩ (.string x)) g 0 (xs.set i x) := by
  have := h.putStr i x hi
  rwa [Nat.zero_add] at this
theorem Try.infoStr : (Try.prog.info? 9).map (fun i => (i.zero, i.size, i.bytes)) = some (some (.string ⟨#[]⟩), 1, 16) := by kernel_rfl

/-- At most a million strings of at most a million bytes. -/
def SFits (xs : List ByteArray) : Prop := xs.length ≤ 1048576 ∧ ∀ i, i < xs.length → (it xs i).size ≤ 1048576
/-- What the memory can hold. -/
def SLen (xs : List ByteArray) : Prop := xs.length ≤ 9223372036854775807 ∧ ∀ i, i < xs.length → (it xs i).size ≤ 9223372036854775807

theorem szStringS_any (A : Option Addr) (c : Nat) (xs : List ByteArray) (left : Int) (w : World) (hr : Lst w w.heap.size A xs) (hl : SLen xs) (h0 : 0 ≤ left) (h1 : left ≤ 1048576) :
    Calls Try.prog 58 #[.slice A xs.length c, .int .i64 left] w fun e w' => (∃ q : Int, e = .returned (.int .i64 q) ∧ (q < 0 ∨ 0 ≤ q ∧ q ≤ left ∧ Hid (SFits xs))) ∧ w' = w := by
  have HR := Lib.hid hr
  have HN := Lib.hid hl.2
  have hl' := hl.1
  clear hr hl
  go_enter Try.func58, Try.ntmps58
  by_cases h : left - (xs.length : Int) < 0
  · go_wp2
    go_ret
    exact ⟨⟨_, rfl, by omega⟩, rfl⟩
  · go_wp2
    go_loop [1, 5] (fun q i => ∃ (k : Nat) (p : Int), k ≤ xs.length ∧ i = .int .i64 k ∧ q = .int .i64 p ∧ 0 ≤ p ∧ p ≤ left ∧ Hid (∀ i, i < k → (it xs i).size ≤ 1048576)) (fun _ i => xs.length - (intOf i).toNat)
    case atStart => exact ⟨0, left - (xs.length : Int), by omega, rfl, rfl, by omega, by omega, Lib.hid (fun i hi => absurd hi (by omega))⟩
    case round =>
      obtain ⟨k, p, hk, rfl, rfl, hp0, hp1, HA⟩ := hrel
      by_cases hlt : k < xs.length
      · obtain ⟨b, o, rfl, hbl, hc⟩ := HR.out.str (by omega)
        have c0 := hc k hlt
        have hs := HN.out k hlt
        clear hc
        by_cases hq : p - ((it xs k).size : Int) < 0
        · go_wp2
          go_ret
          exact ⟨⟨_, rfl, by omega⟩, rfl⟩
        · go_wp2
          go_round
          case rel => exact ⟨k + 1, p - ((it xs k).size : Int), by omega, by go_num, rfl, by omega, by omega, Lib.hid (fun i hi => by
            rcases Nat.lt_or_ge i k with h | h
            · exact HA.out i h
            · obtain rfl : i = k := by omega
              omega)⟩
          case measure => simp [intOf]; omega
      · obtain rfl : k = xs.length := by omega
        go_wp2
        go_ret
        exact ⟨⟨_, rfl, .inr ⟨hp0, hp1, Lib.hid ⟨by omega, HA.out⟩⟩⟩, rfl⟩

theorem toStringS_any (A : Option Addr) (c : Nat) (xs : List ByteArray) (w : World) (hr : Lst w w.heap.size A xs) (hl : xs.length ≤ 1048576) :
    Calls Try.prog 65 #[.slice A xs.length c] w fun e w' => e = .returned (.slice (some ⟨w.heap.size, 0, none⟩) xs.length xs.length) ∧ OwnAt w' w.heap.size 0 xs ∧ w.heap.size < w'.heap.size ∧ Below w.heap.size w w' := by
  have HR := Lib.hid hr
  clear hr
  obtain ⟨i0, hi, hz0, hz1, hz2⟩ := info_parts Try.infoStr
  have HZ := Lib.hid (made_flat (α := ByteArray) #[.string ⟨#[]⟩] default xs.length rfl (by decide))
  go_enter Try.func65, Try.ntmps65
  go_wp2_with (at_make; refine wpList_make_full _ rfl (.tmp 6) (.tmp 6) 53 rfl w.heap.size 9 i0 (.string ⟨#[]⟩) 1 Try.underlying53 hi hz0 hz1 .i64 .i64 _ _ xs.length rfl rfl rfl rfl (by rw [hz2]; omega) (by unfold maxLen; omega) (Nat.le_refl _) ?_; intro w1 hown hgrow)
  have HW := Lib.hid (show OwnAt w1 w.heap.size 0 (List.replicate xs.length (default : ByteArray)) from own_of_row (α := ByteArray) (cap := xs.length) (e := 9) (base := w.heap.size) _ (by rw [← HZ.out, List.length_replicate]; exact hown))
  have hb1 : Below w.heap.size w w1 := (Below.refl _ _).grown hgrow (Nat.le_refl _) (fun k e => by cases e)
  have hs1 := (hown.lt w.heap.size rfl).2
  have HB1 := Lib.hid hb1
  clear hown hgrow hb1
  go_wp2
  go_loopw [4] (fun i wr => ∃ (k : Nat) (ys : List ByteArray), k ≤ xs.length ∧ i = .int .i64 k ∧ ys.length = xs.length ∧ Hid (∀ i, i < k → it ys i = it xs i) ∧ Hid (OwnAt wr w.heap.size 0 ys) ∧ w.heap.size < wr.heap.size ∧ Below w.heap.size w wr) (fun i _ => xs.length - (intOf i).toNat)
  case atStart => exact ⟨0, _, Nat.zero_le _, rfl, by rw [List.length_replicate], Lib.hid (fun i hi => absurd hi (by omega)), HW, hs1, HB1.out⟩
  case round =>
    obtain ⟨k, ys, hk, rfl, hy, HI, HO, hs, hb⟩ := hrel
    by_cases hlt : k < xs.length
    · obtain ⟨b, o, rfl, hbl, hc⟩ := HR.out.str (by omega)
      have c0 := (hb.cell (p := ⟨b, o + k, none⟩) hbl).trans (hc k hlt)
      obtain ⟨d0, f0⟩ := HO.out.str0 k (by omega)
      have HP := Lib.hid (HO.out.putStr0 k (it xs k) (by omega))
      have HB := Lib.hid hb
      clear hc hb
      go_wp2
      go_roundw
      case rel => exact ⟨k + 1, _, by omega, by go_num, by rw [List.length_set]; exact hy, Lib.hid (fun i hi => by
        rw [it_set _ _ _ _ (by omega)]
        by_cases e : i = k
        · rw [if_pos e, e]
        · rw [if_neg e]; exact HI.out i (by omega)), HP, by simpa [World.setCell] using hs, HB.out.setCell (Nat.le_refl _) _⟩
      case measure => simp [intOf]; omega
    · obtain rfl : k = xs.length := by omega
      obtain rfl : ys = xs := it_ext _ _ hy (fun i hi => HI.out i (by omega))
      go_wp2
      go_ret
      exact ⟨rfl, HO.out, hs, hb⟩

theorem eqStringS_yes (A A' : Option Addr) (c c' : Nat) (xs : List ByteArray) (w : World) (hr : Lst w w.heap.size A xs) (hr' : Lst w w.heap.size A' xs) (hl : xs.length ≤ 1048576) :
    Calls Try.prog 52 #[.slice A xs.length c, .slice A' xs.length c'] w fun e w' => e = .returned (.bool true) ∧ ∃ n, w' = w.drewN n := by
  have HR := Lib.hid hr
  have HR' := Lib.hid hr'
  clear hr hr'
  go_enter Try.func52, Try.ntmps52
  go_wp2
  go_loopw [5] (fun i wr => ∃ k n : Nat, k ≤ xs.length ∧ i = .int .i64 k ∧ wr = w.drewN n) (fun i _ => xs.length - (intOf i).toNat)
  case atStart => exact ⟨0, 0, Nat.zero_le _, rfl, rfl⟩
  case round =>
    obtain ⟨k, n, hk, rfl, rfl⟩ := hrel
    by_cases hlt : k < xs.length
    · obtain ⟨b, o, rfl, hbl, hc⟩ := HR.out.str (by omega)
      obtain ⟨b', o', rfl, hbl', hc'⟩ := HR'.out.str (by omega)
      have hck := hc k hlt
      have hck' := hc' k hlt
      have hi1 : (0 : Int) ≤ (k : Int) := by omega
      have hi2 : (k : Int) < (xs.length : Int) := by omega
      clear hc hc'
      go_wp2
      go_quiet (fail)
      go_wp2
      go_roundw
      case rel => exact ⟨k + 1, _, by omega, by go_num, rfl⟩
      case measure => simp [intOf]; omega
    · go_wp2
      go_ret
      exact ⟨rfl, _, rfl⟩

/-- The texts of the marks from k on. -/
def seqS (k n : Nat) : List ByteArray := (List.range n).map fun i => mkText (k + i)
theorem seqS_len (k n : Nat) : (seqS k n).length = n := by simp [seqS]
theorem seqS_it (k n i : Nat) (h : i < n) : it (seqS k n) i = mkText (k + i) := by
  unfold it seqS
  simp [h]

theorem markStringS_any (S : Nat → Prop) (A : Option Addr) (c : Nat) (xs : List ByteArray) (k : Nat) (w : World) (hr : Owned S w A xs) (hl : xs.length ≤ 1048576) (hk : 0 < k) (hk2 : k ≤ 1000000000000000) :
    Calls Try.prog 30 #[.slice A xs.length c, .int .i64 k] w fun e w' => e = .returned (.int .i64 ((k + xs.length : Nat) : Int)) ∧ Owned S w' A (seqS k xs.length) ∧ Only S w w' := by
  rcases Nat.eq_zero_or_pos xs.length with h0 | h0
  · obtain rfl : xs = [] := List.eq_nil_of_length_eq_zero h0
    clear hr h0
    go_enter Try.func30, Try.ntmps30
    go_wp2
    go_loop [1, 5] (fun q i => i = .int .i64 0 ∧ q = .int .i64 k) (fun _ _ => 0)
    case atStart => exact ⟨rfl, rfl⟩
    case round =>
      obtain ⟨rfl, rfl⟩ := hrel
      go_wp2
      go_ret
      exact ⟨by simp, Owned.nil _ _ _, Only.refl _ _⟩
  · obtain ⟨g, o, rfl, hg1, hg2, hc⟩ := hr h0
    have HG := Lib.hid hg1
    have HC := Lib.hid hc
    clear hr hc hg1
    go_enter Try.func30, Try.ntmps30
    go_wp2
    go_loopw [1, 5] (fun q i wr => ∃ (j : Nat) (ys : List ByteArray), j ≤ xs.length ∧ i = .int .i64 j ∧ q = .int .i64 ((k + j : Nat) : Int) ∧ ys.length = xs.length ∧ Hid (∀ i : Nat, i < j → it ys i = mkText (k + i)) ∧ Hid (OwnAt wr g o ys) ∧ g < wr.heap.size ∧ Only S w wr) (fun _ i _ => xs.length - (intOf i).toNat)
    case atStart => exact ⟨0, xs, Nat.zero_le _, rfl, by simp, rfl, Lib.hid (fun i hi => absurd hi (by omega)), HC, hg2, Only.refl _ _⟩
    case round =>
      obtain ⟨j, ys, hj, rfl, rfl, hy, HI, HO, hgs, ho⟩ := hrel
      have HN := Lib.hid ho
      clear ho
      by_cases hlt : j < xs.length
      · go_wp2_with (go_at_call 57; refine (markText_any (k + j) _ (by omega) (by omega)).mono ?_; rintro e w2 ⟨rfl, hb2⟩; have HO2 := Lib.hid (HO.out.block (hb2.block _ hgs)); have HN2 := Lib.hid (HN.out.trans (Only.of_below hb2 (Nat.le_refl _))); have hs2 := Nat.lt_of_lt_of_le hgs hb2.size; obtain ⟨d0, f0⟩ := HO2.out.str j (by omega); clear hb2)
        have HP := Lib.hid (HO2.out.putStr j (mkText (k + j)) (by omega))
        go_roundw
        case rel => exact ⟨j + 1, _, by omega, by go_num, by go_num, by rw [List.length_set]; exact hy, Lib.hid (fun i hi => by
          rw [it_set _ _ _ _ (by omega)]
          by_cases e : i = j
          · rw [if_pos e, e]
          · rw [if_neg e]; exact HI.out i (by omega)), HP, by simpa [World.setCell] using hs2, HN2.out.setCell HG.out _⟩
        case measure => simp [intOf]; omega
      · obtain rfl : j = xs.length := by omega
        obtain rfl : ys = seqS k xs.length := it_ext _ _ (by rw [seqS_len]; exact hy) (fun i hi => by rw [seqS_it _ _ _ (by omega)]; exact HI.out i (by omega))
        go_wp2
        go_ret
        exact ⟨rfl, fun _ => ⟨g, o, rfl, HG.out, Nat.lt_of_lt_of_le hg2 HN.out.size, HO.out⟩, HN.out⟩

theorem heldStringS_any (A : Option Addr) (c n k : Nat) (w : World) (hr : Lst w w.heap.size A (seqS k n)) (hl : n ≤ 1048576) (hk : 0 < k) (hk2 : k ≤ 1000000000000000) :
    Calls Try.prog 32 #[.slice A n c, .int .i64 k] w fun e w' => e = .returned (.int .i64 ((k + n : Nat) : Int)) ∧ Below w.heap.size w w' := by
  have HR := Lib.hid hr
  clear hr
  go_enter Try.func32, Try.ntmps32
  go_wp2
  go_loopw [1, 5] (fun q i wr => ∃ j : Nat, j ≤ n ∧ i = .int .i64 j ∧ q = .int .i64 ((k + j : Nat) : Int) ∧ Below w.heap.size w wr) (fun _ i _ => n - (intOf i).toNat)
  case atStart => exact ⟨0, Nat.zero_le _, rfl, by simp, Below.refl _ _⟩
  case round =>
    obtain ⟨j, hj, rfl, rfl, hb⟩ := hrel
    by_cases hlt : j < n
    · obtain ⟨b, o, rfl, hbl, hc⟩ := HR.out.str (by rw [seqS_len]; omega)
      have hcj := hc j (by rw [seqS_len]; omega)
      rw [seqS_it _ _ _ hlt] at hcj
      have hbs := Nat.lt_of_lt_of_le hbl hb.size
      have c0 : wr.cell? ⟨b, o + j, none⟩ = some (.string (mkText (k + j))) := (hb.cell (p := ⟨b, o + j, none⟩) hbl).trans hcj
      have HB := Lib.hid hb
      have hi1 : (0 : Int) ≤ (j : Int) := by omega
      have hi2 : (j : Int) < (n : Int) := by omega
      clear hc hb hcj
      go_wp2
      go_region_with (go_at_call 57; (with_reducible refine (markText_i ((k : Int) + (j : Int)) (k + j) _ (by omega) (by omega) (by omega)).mono ?_); rintro e w1 ⟨rfl, hb1⟩; have c0' := (hb1.cell (p := ⟨b, o + j, none⟩) hbs).trans c0)
      all_goals
        have HB1 := Lib.hid (HB.out.trans ((Below.refl _ _).drew.trans (hb1.mono (by exact HB.out.size))))
        clear hb1 c0 c0'
        go_simp
        go_wp2
        go_roundw
        case rel => exact ⟨j + 1, by omega, by go_num, by go_num, HB1.out⟩
        case measure => simp [intOf]; omega
    · obtain rfl : j = n := by omega
      go_wp2
      go_ret
      exact ⟨rfl, hb⟩
end Go.Proofs.Ytbhfhjhegcfdkaa
