/- Review: a flat struct; lists of it, as the laws' helpers read, copy, compare, mark and hold them. -/
import Derived.Test.YtbhfhjhegcfdkaaFlat
import Derived.RegionTactic
import Derived.Deep.RegionHeld3
namespace Go.Proofs.Ytbhfhjhegcfdkaa
open Go.ChangeShapes Go.WideShapes Go.ChangeAt Go.RowKit
set_option linter.unusedVariables false

structure Rv where
  item : Int
  name : Int
  mark : Int
def Rv.cs (x : Rv) : List Value := [.int .i64 x.item, .int .i64 x.name, .int .i64 x.mark]
instance : Flat Rv where
  default := ⟨0, 0, 0⟩
  sz := 3
  cells := Rv.cs
  len := fun _ => rfl
@[reducible] def Rv.val (x : Rv) : Value := .agg #[.int .i64 x.item, .int .i64 x.name, .int .i64 x.mark]
structure RvAt (w : World) (b o : Nat) (x : Rv) : Prop where
  c0 : w.cell? ⟨b, o, none⟩ = some (.int .i64 x.item)
  c1 : w.cell? ⟨b, o + 1, none⟩ = some (.int .i64 x.name)
  c2 : w.cell? ⟨b, o + 2, none⟩ = some (.int .i64 x.mark)
theorem rvAt {w : World} {b o : Nat} {x : Rv} (h : CellsAt w b o (Flat.cells x)) : RvAt w b o x := ⟨h 0 _ rfl, h 1 _ rfl, h 2 _ rfl⟩
theorem Lst.rv {w : World} {B : Nat} {A : Option Addr} {xs : List Rv} (h : Lst w B A xs) (hp : 0 < xs.length) : ∃ b o, A = some ⟨b, o, none⟩ ∧ b < B ∧ ∀ i, i < xs.length → RvAt w b (o + i * 3) (it xs i) := by
  obtain ⟨b, o, h1, h2, h3⟩ := h hp
  exact ⟨b, o, h1, h2, fun i hi => rvAt (h3 i hi)⟩
theorem RvAt.below {w w' : World} {B b o : Nat} {x : Rv} (h : RvAt w b o x) (hb : Below B w w') (hB : b < B) : RvAt w' b o x :=
  ⟨(hb.cell (p := ⟨b, o, none⟩) hB).trans h.c0, (hb.cell (p := ⟨b, o + 1, none⟩) hB).trans h.c1, (hb.cell (p := ⟨b, o + 2, none⟩) hB).trans h.c2⟩
structure RvOwn (w : World) (b o : Nat) (x : Rv) : Prop extends RvAt w b o x where
  f0 : w.frozen? ⟨b, o, none⟩ = false
  f1 : w.frozen? ⟨b, o + 1, none⟩ = false
  f2 : w.frozen? ⟨b, o + 2, none⟩ = false
theorem OwnAt.rv0 {w : World} {g : Nat} {xs : List Rv} (h : OwnAt w g 0 xs) (i : Nat) (hi : i < xs.length) : RvOwn w g (i * 3) (it xs i) := by
  have h1 := h.cell i hi
  have h2 := fun j => h.free i j hi
  rw [Nat.zero_add] at h1 h2
  exact ⟨rvAt h1, h2 0 (by decide), h2 1 (by decide), h2 2 (by decide)⟩
theorem OwnAt.rv {w : World} {g o : Nat} {xs : List Rv} (h : OwnAt w g o xs) (i : Nat) (hi : i < xs.length) : RvOwn w g (o + i * 3) (it xs i) := by
  have h1 := h.cell i hi
  have h2 := fun j => h.free i j hi
  exact ⟨rvAt h1, h2 0 (by decide), h2 1 (by decide), h2 2 (by decide)⟩

theorem szReviewS_any (A : Option Addr) (c : Nat) (xs : List Rv) (left : Int) (w : World) (hl : xs.length ≤ 9223372036854775807) (h0 : 0 ≤ left) (h1 : left ≤ 1048576) :
    Calls Try.prog 15 #[.slice A xs.length c, .int .i64 left] w fun e w' => (∃ q : Int, e = .returned (.int .i64 q) ∧ (q < 0 ∨ 0 ≤ q ∧ q ≤ left ∧ xs.length ≤ 1048576)) ∧ w' = w := by
  go_enter Try.func15, Try.ntmps15
  by_cases h : left - (xs.length : Int) < 0
  · go_wp2
    go_ret
    exact ⟨⟨_, rfl, by omega⟩, rfl⟩
  · go_wp2
    go_ret
    exact ⟨⟨_, rfl, by omega⟩, rfl⟩
theorem toReview_any (x : Rv) (w : World) :
    Calls Try.prog 43 #[x.val] w fun e w' => e = .returned x.val ∧ Below w.heap.size w w' := by
  unfold Rv.val
  go_enter Try.func43, Try.ntmps43
  go_wp2
  go_returns
  refine ⟨rfl, ?_⟩
  go_grown

theorem Try.infoRv : (Try.prog.info? 71).map (fun i => (i.zero, i.size, i.bytes)) = some (some (.agg #[.int .i64 0, .int .i64 0, .int .i64 0]), 3, 24) := by kernel_rfl
theorem toReviewS_any (A : Option Addr) (c : Nat) (xs : List Rv) (w : World) (hr : Lst w w.heap.size A xs) (hl : xs.length ≤ 1048576) :
    Calls Try.prog 21 #[.slice A xs.length c] w fun e w' => e = .returned (.slice (some ⟨w.heap.size, 0, none⟩) xs.length xs.length) ∧ OwnAt w' w.heap.size 0 xs ∧ w.heap.size < w'.heap.size ∧ Below w.heap.size w w' := by
  have HR := Lib.hid hr
  clear hr
  obtain ⟨i0, hi, hz0, hz1, hz2⟩ := info_parts Try.infoRv
  have HZ := Lib.hid (made_flat (α := Rv) #[.int .i64 0, .int .i64 0, .int .i64 0] default xs.length rfl (by decide))
  go_enter Try.func21, Try.ntmps21
  go_wp2_with (at_make; refine wpList_make_full _ rfl (.tmp 6) (.tmp 6) 31 rfl w.heap.size 71 i0 (.agg #[.int .i64 0, .int .i64 0, .int .i64 0]) 3 Try.underlying31 hi hz0 hz1 .i64 .i64 _ _ xs.length rfl rfl rfl rfl (by rw [hz2]; omega) (by unfold maxLen; omega) (Nat.le_refl _) ?_; intro w1 hown hgrow)
  have HW := Lib.hid (show OwnAt w1 w.heap.size 0 (List.replicate xs.length (default : Rv)) from own_of_row (α := Rv) (cap := xs.length) (e := 71) (base := w.heap.size) _ (by rw [← HZ.out, List.length_replicate]; exact hown))
  have hb1 : Below w.heap.size w w1 := (Below.refl _ _).grown hgrow (Nat.le_refl _) (fun k e => by cases e)
  have hs1 := (hown.lt w.heap.size rfl).2
  have HB1 := Lib.hid hb1
  clear hown hgrow hb1
  go_loopw [4] (fun i wr => ∃ (k : Nat) (ys : List Rv), k ≤ xs.length ∧ i = .int .i64 k ∧ ys.length = xs.length ∧ Hid (∀ i, i < k → it ys i = it xs i) ∧ Hid (OwnAt wr w.heap.size 0 ys) ∧ w.heap.size < wr.heap.size ∧ Below w.heap.size w wr) (fun i _ => xs.length - (intOf i).toNat)
  case atStart => exact ⟨0, _, Nat.zero_le _, rfl, by rw [List.length_replicate], Lib.hid (fun i hi => absurd hi (by omega)), HW, hs1, HB1.out⟩
  case round =>
    obtain ⟨k, ys, hk, rfl, hy, HI, HO, hs, hb⟩ := hrel
    by_cases hlt : k < xs.length
    · obtain ⟨b, o, rfl, hbl, hc⟩ := HR.out.rv (by omega)
      obtain ⟨c0, c1, c2⟩ := (hc k hlt).below hb hbl
      have HB := Lib.hid hb
      clear hc hb
      go_wp2_with (go_at_call 43; refine (toReview_any (it xs k) _).mono ?_; rintro e w2 ⟨rfl, hb2⟩; unfold Rv.val; have HO2 := Lib.hid (HO.out.block (hb2.block _ hs)); have HB2 := Lib.hid (HB.out.trans (hb2.mono HB.out.size)); have hs2 := Nat.lt_of_lt_of_le hs hb2.size; obtain ⟨⟨d0, d1, d2⟩, f0, f1, f2⟩ := HO2.out.rv0 k (by omega); clear hb2)
      have HP := Lib.hid (HO2.out.put k (it xs k) (by omega))
      have HN := Lib.hid (putAt_only (S := fun i => i = w.heap.size) rfl (0 + k * 3) (Flat.cells (it xs k)) w2 w2 0 (Only.refl _ _))
      rw [Nat.zero_add] at HP HN
      go_roundw
      case rel => exact ⟨k + 1, _, by omega, by go_num, by rw [List.length_set]; exact hy, Lib.hid (fun i hi => by
        rw [it_set _ _ _ _ (by omega)]
        by_cases e : i = k
        · rw [if_pos e, e]
        · rw [if_neg e]; exact HI.out i (by omega)), HP, by simpa [World.setCell] using hs2, HB2.out.trans (HN.out.below (by omega) (fun k e => Nat.le_of_eq e.symm))⟩
      case measure => simp [intOf]; omega
    · obtain rfl : k = xs.length := by omega
      obtain rfl : ys = xs := it_ext _ _ hy (fun i hi => HI.out i (by omega))
      go_wp2
      go_ret
      exact ⟨rfl, HO.out, hs, hb⟩

theorem eqReview_yes (x : Rv) (w : World) :
    Calls Try.prog 55 #[x.val, x.val] w fun e w' => e = .returned (.bool true) ∧ Below w.heap.size w w' := by
  unfold Rv.val
  go_enter Try.func55, Try.ntmps55
  go_wp2
  go_ret
  refine ⟨rfl, ?_⟩
  go_grown
theorem eqReviewS_yes (A A' : Option Addr) (c c' : Nat) (xs : List Rv) (w : World) (hr : Lst w w.heap.size A xs) (hr' : Lst w w.heap.size A' xs) (hl : xs.length ≤ 1048576) :
    Calls Try.prog 27 #[.slice A xs.length c, .slice A' xs.length c'] w fun e w' => e = .returned (.bool true) ∧ Below w.heap.size w w' := by
  have HR := Lib.hid hr
  have HR' := Lib.hid hr'
  clear hr hr'
  go_enter Try.func27, Try.ntmps27
  go_wp2
  go_loopw [5] (fun i wr => ∃ k : Nat, k ≤ xs.length ∧ i = .int .i64 k ∧ Below w.heap.size w wr) (fun i _ => xs.length - (intOf i).toNat)
  case atStart => exact ⟨0, Nat.zero_le _, rfl, Below.refl _ _⟩
  case round =>
    obtain ⟨k, hk, rfl, hb⟩ := hrel
    by_cases hlt : k < xs.length
    · obtain ⟨b, o, rfl, hbl, hc⟩ := HR.out.rv (by omega)
      obtain ⟨b', o', rfl, hbl', hc'⟩ := HR'.out.rv (by omega)
      obtain ⟨c0, c1, c2⟩ := (hc k hlt).below hb hbl
      obtain ⟨d0, d1, d2⟩ := (hc' k hlt).below hb hbl'
      have hi1 : (0 : Int) ≤ (k : Int) := by omega
      have hi2 : (k : Int) < (xs.length : Int) := by omega
      have HB := Lib.hid hb
      clear hc hc' hb
      go_wp2
      go_region_with (go_at_call 55; (with_reducible refine (eqReview_yes (it xs k) _).mono ?_); rintro e w1 ⟨rfl, hb1⟩)
      all_goals
        have HB1 := Lib.hid (HB.out.trans ((Below.refl _ _).drew.trans (hb1.mono (by exact HB.out.size))))
        clear hb1
        go_simp
        go_wp2
        go_roundw
        case rel => exact ⟨k + 1, by omega, by go_num, HB1.out⟩
        case measure => simp [intOf]; omega
    · go_wp2
      go_ret
      exact ⟨rfl, hb⟩

def mkRv (k : Nat) : Rv := ⟨(k : Int), (k : Int) + 1, (k : Int) + 1 + 1⟩
/-- The marks of n of them from k on. -/
def marksRv (k n : Nat) : List Rv := (List.range n).map fun i => mkRv (k + i * 3)
theorem marksRv_len (k n : Nat) : (marksRv k n).length = n := by simp [marksRv]
theorem marksRv_it (k n i : Nat) (h : i < n) : it (marksRv k n) i = mkRv (k + i * 3) := by
  unfold it marksRv
  simp [h]
theorem markReviewS_any (S : Nat → Prop) (A : Option Addr) (c : Nat) (xs : List Rv) (k : Nat) (w : World) (hr : Owned S w A xs) (hl : xs.length ≤ 1048576) (hk : 0 < k) (hk2 : k ≤ 1000000000000000) :
    Calls Try.prog 29 #[.slice A xs.length c, .int .i64 k] w fun e w' => e = .returned (.int .i64 ((k + xs.length * 3 : Nat) : Int)) ∧ Owned S w' A (marksRv k xs.length) ∧ Only S w w' := by
  rcases Nat.eq_zero_or_pos xs.length with h0 | h0
  · obtain rfl : xs = [] := List.eq_nil_of_length_eq_zero h0
    clear hr h0
    go_enter Try.func29, Try.ntmps29
    go_wp2
    go_loop [1, 5] (fun q i => i = .int .i64 0 ∧ q = .int .i64 k) (fun _ _ => 0)
    case atStart => exact ⟨rfl, rfl⟩
    case round =>
      obtain ⟨rfl, rfl⟩ := hrel
      go_wp2
      go_ret
      exact ⟨by simp, Owned.nil _ _ _, Only.refl _ _⟩
  · obtain ⟨g, o, rfl, hg1, hg2, hc⟩ := hr h0
    have HG := Lib.hid hg1
    have HC := Lib.hid hc
    clear hr hc hg1
    go_enter Try.func29, Try.ntmps29
    go_wp2
    go_loopw [1, 5] (fun q i wr => ∃ (j : Nat) (ys : List Rv), j ≤ xs.length ∧ i = .int .i64 j ∧ q = .int .i64 ((k + j * 3 : Nat) : Int) ∧ ys.length = xs.length ∧ Hid (∀ i : Nat, i < j → it ys i = mkRv (k + i * 3)) ∧ Hid (OwnAt wr g o ys) ∧ g < wr.heap.size ∧ Only S w wr) (fun _ i _ => xs.length - (intOf i).toNat)
    case atStart => exact ⟨0, xs, Nat.zero_le _, rfl, by simp, rfl, Lib.hid (fun i hi => absurd hi (by omega)), HC, hg2, Only.refl _ _⟩
    case round =>
      obtain ⟨j, ys, hj, rfl, rfl, hy, HI, HO, hgs, ho⟩ := hrel
      have HN := Lib.hid ho
      clear ho
      by_cases hlt : j < xs.length
      · obtain ⟨⟨d0, d1, d2⟩, f0, f1, f2⟩ := HO.out.rv j (by omega)
        go_wp2
        have HP := Lib.hid (HO.out.put j (mkRv (k + j * 3)) (by omega))
        have HN3 := Lib.hid (putAt_only HG.out (o + j * 3) (Flat.cells (mkRv (k + j * 3))) w wr 0 HN.out)
        go_roundw
        case rel => exact ⟨j + 1, _, by omega, by go_num, by go_num, by rw [List.length_set]; exact hy, Lib.hid (fun i hi => by
          rw [it_set _ _ _ _ (by omega)]
          by_cases e : i = j
          · rw [if_pos e, e]
          · rw [if_neg e]; exact HI.out i (by omega)), HP, by simpa [World.setCell] using hgs, HN3.out⟩
        case measure => simp [intOf]; omega
      · obtain rfl : j = xs.length := by omega
        obtain rfl : ys = marksRv k xs.length := it_ext _ _ (by rw [marksRv_len]; exact hy) (fun i hi => by rw [marksRv_it _ _ _ (by omega)]; exact HI.out i (by omega))
        go_wp2
        go_ret
        exact ⟨rfl, fun _ => ⟨g, o, rfl, HG.out, Nat.lt_of_lt_of_le hg2 HN.out.size, HO.out⟩, HN.out⟩
end Go.Proofs.Ytbhfhjhegcfdkaa
