/- More slices of ints: sums, places, copies and comparisons. -/
import Derived.Test.YtnambmpnolkfjaaOneInts
namespace Go.Proofs.Ytnambmpnolkfjaa.One
open Go.ChangeShapes Go.WideShapes Go.ChangeAt Go.RowKit
set_option linter.unusedVariables false

theorem more_step (xs : List Int) (n : Int) (k : Nat) (h : n < ix xs k) : moreTo xs n (k + 1) = moreTo xs n k + 1 := by simp [moreTo, h]
theorem more_stay (xs : List Int) (n : Int) (k : Nat) (h : ¬ n < ix xs k) : moreTo xs n (k + 1) = moreTo xs n k := by simp only [moreTo, if_neg h]; omega
theorem Try.info3 : (Try.prog.info? 3).map (fun i => (i.zero, i.size, i.bytes)) = some (some (.int .i64 0), 1, 8) := by kernel_rfl

/-- The cells of a copy of xs of which k are written. -/
def upto (xs : List Int) (k : Nat) : List Value := (List.range xs.length).map fun i => Value.int .i64 (if i < k then ix xs i else 0)
theorem upto_len (xs : List Int) (k : Nat) : (upto xs k).length = xs.length := by simp [upto]
theorem upto_get (xs : List Int) (k i : Nat) (h : i < xs.length) : (upto xs k)[i]? = some (.int .i64 (if i < k then ix xs i else 0)) := by simp [upto, h]
theorem upto_zero (xs : List Int) : (madeCells (Value.int .i64 0).cells (xs.length * 1)).toList = upto xs 0 := by
  show (madeCells #[Value.int .i64 0] (xs.length * 1)).toList = _
  rw [toList_madeCells_one]
  apply List.ext_getElem?
  intro i
  rcases Nat.lt_or_ge i xs.length with h | h
  · rw [upto_get xs 0 i h, List.getElem?_replicate, if_pos (by omega), if_neg (by omega)]
  · rw [List.getElem?_eq_none (by rw [List.length_replicate]; omega), List.getElem?_eq_none (by rw [upto_len]; omega)]
theorem upto_succ (xs : List Int) (k : Nat) (hk : k < xs.length) : (upto xs k).set k (.int .i64 (ix xs k)) = upto xs (k + 1) := by
  apply List.ext_getElem?
  intro i
  rcases Nat.lt_or_ge i xs.length with h | h
  · rw [upto_get xs (k + 1) i h, List.getElem?_set]
    by_cases e : k = i
    · subst e
      rw [if_pos rfl, if_pos (by rw [upto_len]; exact hk), if_pos (by omega)]
    · rw [if_neg e, upto_get xs k i h]
      by_cases h2 : i < k
      · rw [if_pos h2, if_pos (by omega)]
      · rw [if_neg h2, if_neg (by omega)]
  · rw [List.getElem?_eq_none (by rw [List.length_set, upto_len]; omega), List.getElem?_eq_none (by rw [upto_len]; omega)]

/-- A row of the call's own that holds the numbers xs, at its block's head. -/
def Own (w : World) (base g : Nat) (xs : List Value) : Prop := w.ownsRow base 3 1 (.slice (some ⟨g, 0, none⟩) xs.length xs.length) xs.length xs
theorem Own.ints {w : World} {base g k : Nat} {xs : List Int} (h : w.ownsRow base 3 1 (.slice (some ⟨g, 0, none⟩) xs.length xs.length) xs.length (upto xs k)) (hk : xs.length ≤ k) : Ints w (g + 1) (some ⟨g, 0, none⟩) xs := fun hp =>
  ⟨g, 0, rfl, by omega, fun i hi => by
    rw [Nat.zero_add, h.cellAt i (by omega), upto_get xs k i hi, if_pos (by omega)]⟩

theorem toIntS_any (A : Option Addr) (c : Nat) (xs : List Int) (w : World) (hr : Ints w w.heap.size A xs) (hl : xs.length ≤ 1048576) :
    Calls Try.prog 16 #[.slice A xs.length c] w fun e w' => e = .returned (.slice (some ⟨w.heap.size, 0, none⟩) xs.length xs.length) ∧ w'.ownsRow w.heap.size 3 1 (.slice (some ⟨w.heap.size, 0, none⟩) xs.length xs.length) xs.length (upto xs xs.length) ∧ Below w.heap.size w w' := by
  have HR := Lib.hid hr
  clear hr
  obtain ⟨i0, hi, hz0, hz1, hz2⟩ := info_parts Try.info3
  have HZ := Lib.hid (upto_zero xs)
  go_enter Try.func16, Try.ntmps16
  go_wp2_with (at_make; refine wpList_make_full _ rfl (.tmp 6) (.tmp 6) 22 rfl w.heap.size 3 i0 (.int .i64 0) 1 Try.underlying22 hi hz0 hz1 .i64 .i64 _ _ xs.length rfl rfl rfl rfl (by rw [hz2]; omega) (by unfold maxLen; omega) (Nat.le_refl _) ?_; intro w1 hown hgrow)
  rw [HZ.out] at hown
  have hb1 : Below w.heap.size w w1 := (Below.refl _ _).grown hgrow (Nat.le_refl _) (fun k e => by cases e)
  go_wp2
  go_loopw [4] (fun i wr => ∃ k : Nat, k ≤ xs.length ∧ i = .int .i64 k ∧ wr.ownsRow w.heap.size 3 1 (.slice (some ⟨w.heap.size, 0, none⟩) xs.length xs.length) xs.length (upto xs k) ∧ Below w.heap.size w wr) (fun i _ => xs.length - (intOf i).toNat)
  case atStart => exact ⟨0, Nat.zero_le _, rfl, hown, hb1⟩
  case round =>
    obtain ⟨k, hk, rfl, ho, hb⟩ := hrel
    by_cases hlt : k < xs.length
    · obtain ⟨b, o, rfl, hbl, hc⟩ := HR.out (by omega)
      have hck := (hb.cell (p := ⟨b, o + k, none⟩) hbl).trans (hc k hlt)
      have hcw := (ho.cellAt k (by omega)).trans (upto_get xs k k hlt)
      have hfw := ho.frozenAt k
      have HS := Lib.hid (ho.stored k (.int .i64 (ix xs k)))
      have HO := Lib.hid ho
      have HB := Lib.hid hb
      clear hc ho hb hb1 hown hgrow
      go_wp2
      go_roundw
      case rel => exact ⟨k + 1, by omega, by go_num, by rw [← upto_succ xs k hlt]; exact HS.out.1, HB.out.setCell (Nat.le_refl _) _⟩
      case measure => simp [intOf]; omega
    · obtain rfl : k = xs.length := by omega
      go_wp2
      go_ret
      exact ⟨rfl, ho, hb⟩

theorem eqIntS_yes (A A' : Option Addr) (c c' : Nat) (xs : List Int) (w : World) (B B' : Nat) (hr : Ints w B A xs) (hr' : Ints w B' A' xs) (hl : xs.length ≤ 1048576) :
    Calls Try.prog 18 #[.slice A xs.length c, .slice A' xs.length c'] w fun e w' => e = .returned (.bool true) ∧ ∃ n, w' = w.drewN n := by
  have HR := Lib.hid hr
  have HR' := Lib.hid hr'
  clear hr hr'
  go_enter Try.func18, Try.ntmps18
  go_wp2
  go_loopw [5] (fun i wr => ∃ k n : Nat, k ≤ xs.length ∧ i = .int .i64 k ∧ wr = w.drewN n) (fun i _ => xs.length - (intOf i).toNat)
  case atStart => exact ⟨0, 0, Nat.zero_le _, rfl, rfl⟩
  case round =>
    obtain ⟨k, n, hk, rfl, rfl⟩ := hrel
    by_cases hlt : k < xs.length
    · obtain ⟨b, o, rfl, hbl, hc⟩ := HR.out (by omega)
      obtain ⟨b', o', rfl, hbl', hc'⟩ := HR'.out (by omega)
      have hck := hc k hlt
      have hck' := hc' k hlt
      have hi1 : (0 : Int) ≤ (k : Int) := by omega
      have hi2 : (k : Int) < (xs.length : Int) := by omega
      clear hc hc'
      go_wp2
      go_quiet (fail)
      go_wp2
      go_roundw
      case rel => exact ⟨k + 1, _, by omega, by go_num, rfl⟩
      case measure => simp [intOf]; omega
    · go_wp2
      go_ret
      exact ⟨rfl, _, rfl⟩

/-- What the row's own reading of a slice of ints gives. -/
theorem ints_of_row {w : World} {a : Option Addr} {len cap : Nat} {zs : List Int}
    (h : (a = none ∧ len = 0 ∧ cap = 0 ∧ zs = []) ∨ ∃ x, a = some x ∧ len ≤ cap ∧ cap ≤ maxLen ∧ zs.length = cap ∧ (∀ i, i < zs.length → w.cell? (x.add i) = some (.int .i64 (zs.getD i 0))) ∧ ∀ n ∈ zs, (Lit.int .i64 n).wf = true) :
    ∃ xs : List Int, len = xs.length ∧ Ints w w.heap.size a xs ∧ ∀ i, i < xs.length → -9223372036854775808 ≤ ix xs i ∧ ix xs i ≤ 9223372036854775807 := by
  rcases h with ⟨rfl, rfl, rfl, rfl⟩ | ⟨x, rfl, h1, h2, h3, h4, h5⟩
  · exact ⟨[], rfl, fun h => absurd h (by simp), fun i h => absurd h (by simp)⟩
  · have hlen : (zs.take len).length = len := by rw [List.length_take]; omega
    have hget : ∀ i, i < len → ix (zs.take len) i = zs.getD i 0 := fun i hi => by
      unfold ix
      rw [List.getD_eq_getElem?_getD, List.getElem?_take, if_pos hi, List.getD_eq_getElem?_getD]
    refine ⟨zs.take len, hlen.symm, fun hp => ?_, fun i hi => ?_⟩
    · rw [hlen] at hp
      obtain ⟨b, o, s⟩ := x
      have hc0 := h4 0 (by omega)
      have hs : s = none := by simpa [Addr.add] using World.cell?_spot hc0
      subst hs
      refine ⟨b, o, rfl, ?_, fun i hi => ?_⟩
      · rcases Nat.lt_or_ge b w.heap.size with hlt | hge
        · exact hlt
        · have : (Addr.add ⟨b, o, none⟩ 0).block = b := by unfold Addr.add; split <;> rfl
          unfold World.cell? at hc0
          rw [this, Array.getElem?_eq_none hge] at hc0
          simp at hc0
      · rw [hlen] at hi
        have := h4 i (by omega)
        rw [hget i hi, ← this]
        congr 1
        unfold Addr.add
        by_cases e : i = 0
        · simp [e]
        · simp [e]
    · rw [hlen] at hi
      rw [hget i hi]
      have hm : zs.getD i 0 ∈ zs := by
        rw [List.getD_eq_getElem?_getD, List.getElem?_eq_getElem (by omega)]
        exact List.getElem_mem _
      have := h5 _ hm
      simpa [Lit.wf, IntKind.min, IntKind.max, IntKind.signed, IntKind.bits] using this
end Go.Proofs.Ytnambmpnolkfjaa.One
