/- Change: a flat struct; lists of it, as the laws' helpers read, copy, compare, mark and hold them. -/
import Derived.Test.YthbkfekbpjkhnaaFlat
import Derived.RegionTactic
import Derived.Deep.RegionHeld3
namespace Go.Proofs.Ythbkfekbpjkhnaa
open Go.ChangeShapes Go.WideShapes Go.ChangeAt Go.RowKit
set_option linter.unusedVariables false

structure Cg where
  tick : Int
  caller : Int
  item : Int
  name : Int
  mark : Int
  review : Bool
def Cg.cs (x : Cg) : List Value := [.int .i64 x.tick, .int .i64 x.caller, .int .i64 x.item, .int .i64 x.name, .int .i64 x.mark, .bool x.review]
instance : Flat Cg where
  default := ⟨0, 0, 0, 0, 0, false⟩
  sz := 6
  cells := Cg.cs
  len := fun _ => rfl
@[reducible] def Cg.val (x : Cg) : Value := .agg #[.int .i64 x.tick, .int .i64 x.caller, .int .i64 x.item, .int .i64 x.name, .int .i64 x.mark, .bool x.review]
structure CgAt (w : World) (b o : Nat) (x : Cg) : Prop where
  c0 : w.cell? ⟨b, o, none⟩ = some (.int .i64 x.tick)
  c1 : w.cell? ⟨b, o + 1, none⟩ = some (.int .i64 x.caller)
  c2 : w.cell? ⟨b, o + 2, none⟩ = some (.int .i64 x.item)
  c3 : w.cell? ⟨b, o + 3, none⟩ = some (.int .i64 x.name)
  c4 : w.cell? ⟨b, o + 4, none⟩ = some (.int .i64 x.mark)
  c5 : w.cell? ⟨b, o + 5, none⟩ = some (.bool x.review)
theorem cgAt {w : World} {b o : Nat} {x : Cg} (h : CellsAt w b o (Flat.cells x)) : CgAt w b o x := ⟨h 0 _ rfl, h 1 _ rfl, h 2 _ rfl, h 3 _ rfl, h 4 _ rfl, h 5 _ rfl⟩
theorem Lst.cg {w : World} {B : Nat} {A : Option Addr} {xs : List Cg} (h : Lst w B A xs) (hp : 0 < xs.length) : ∃ b o, A = some ⟨b, o, none⟩ ∧ b < B ∧ ∀ i, i < xs.length → CgAt w b (o + i * 6) (it xs i) := by
  obtain ⟨b, o, h1, h2, h3⟩ := h hp
  exact ⟨b, o, h1, h2, fun i hi => cgAt (h3 i hi)⟩
theorem CgAt.below {w w' : World} {B b o : Nat} {x : Cg} (h : CgAt w b o x) (hb : Below B w w') (hB : b < B) : CgAt w' b o x :=
  ⟨(hb.cell (p := ⟨b, o, none⟩) hB).trans h.c0, (hb.cell (p := ⟨b, o + 1, none⟩) hB).trans h.c1, (hb.cell (p := ⟨b, o + 2, none⟩) hB).trans h.c2, (hb.cell (p := ⟨b, o + 3, none⟩) hB).trans h.c3, (hb.cell (p := ⟨b, o + 4, none⟩) hB).trans h.c4, (hb.cell (p := ⟨b, o + 5, none⟩) hB).trans h.c5⟩
structure CgOwn (w : World) (b o : Nat) (x : Cg) : Prop extends CgAt w b o x where
  f0 : w.frozen? ⟨b, o, none⟩ = false
  f1 : w.frozen? ⟨b, o + 1, none⟩ = false
  f2 : w.frozen? ⟨b, o + 2, none⟩ = false
  f3 : w.frozen? ⟨b, o + 3, none⟩ = false
  f4 : w.frozen? ⟨b, o + 4, none⟩ = false
  f5 : w.frozen? ⟨b, o + 5, none⟩ = false
theorem OwnAt.cg0 {w : World} {g : Nat} {xs : List Cg} (h : OwnAt w g 0 xs) (i : Nat) (hi : i < xs.length) : CgOwn w g (i * 6) (it xs i) := by
  have h1 := h.cell i hi
  have h2 := fun j => h.free i j hi
  rw [Nat.zero_add] at h1 h2
  exact ⟨cgAt h1, h2 0 (by decide), h2 1 (by decide), h2 2 (by decide), h2 3 (by decide), h2 4 (by decide), h2 5 (by decide)⟩
theorem OwnAt.cg {w : World} {g o : Nat} {xs : List Cg} (h : OwnAt w g o xs) (i : Nat) (hi : i < xs.length) : CgOwn w g (o + i * 6) (it xs i) := by
  have h1 := h.cell i hi
  have h2 := fun j => h.free i j hi
  exact ⟨cgAt h1, h2 0 (by decide), h2 1 (by decide), h2 2 (by decide), h2 3 (by decide), h2 4 (by decide), h2 5 (by decide)⟩

theorem szChangeS_any (A : Option Addr) (c : Nat) (xs : List Cg) (left : Int) (w : World) (hl : xs.length ≤ 9223372036854775807) (h0 : 0 ≤ left) (h1 : left ≤ 1048576) :
    Calls Try.prog 12 #[.slice A xs.length c, .int .i64 left] w fun e w' => (∃ q : Int, e = .returned (.int .i64 q) ∧ (q < 0 ∨ 0 ≤ q ∧ q ≤ left ∧ xs.length ≤ 1048576)) ∧ w' = w := by
  go_enter Try.func12, Try.ntmps12
  by_cases h : left - (xs.length : Int) < 0
  · go_wp2
    go_ret
    exact ⟨⟨_, rfl, by omega⟩, rfl⟩
  · go_wp2
    go_ret
    exact ⟨⟨_, rfl, by omega⟩, rfl⟩
theorem toChange_any (x : Cg) (w : World) :
    Calls Try.prog 32 #[x.val] w fun e w' => e = .returned x.val ∧ Below w.heap.size w w' := by
  unfold Cg.val
  go_enter Try.func32, Try.ntmps32
  go_wp2
  go_returns
  refine ⟨rfl, ?_⟩
  go_grown

theorem Try.infoCg : (Try.prog.info? 50).map (fun i => (i.zero, i.size, i.bytes)) = some (some (.agg #[.int .i64 0, .int .i64 0, .int .i64 0, .int .i64 0, .int .i64 0, .bool false]), 6, 48) := by kernel_rfl
theorem toChangeS_any (A : Option Addr) (c : Nat) (xs : List Cg) (w : World) (hr : Lst w w.heap.size A xs) (hl : xs.length ≤ 1048576) :
    Calls Try.prog 15 #[.slice A xs.length c] w fun e w' => e = .returned (.slice (some ⟨w.heap.size, 0, none⟩) xs.length xs.length) ∧ OwnAt w' w.heap.size 0 xs ∧ w.heap.size < w'.heap.size ∧ Below w.heap.size w w' := by
  have HR := Lib.hid hr
  clear hr
  obtain ⟨i0, hi, hz0, hz1, hz2⟩ := info_parts Try.infoCg
  have HZ := Lib.hid (made_flat (α := Cg) #[.int .i64 0, .int .i64 0, .int .i64 0, .int .i64 0, .int .i64 0, .bool false] default xs.length rfl (by decide))
  go_enter Try.func15, Try.ntmps15
  go_wp2_with (at_make; refine wpList_make_full _ rfl (.tmp 6) (.tmp 6) 30 rfl w.heap.size 50 i0 (.agg #[.int .i64 0, .int .i64 0, .int .i64 0, .int .i64 0, .int .i64 0, .bool false]) 6 Try.underlying30 hi hz0 hz1 .i64 .i64 _ _ xs.length rfl rfl rfl rfl (by rw [hz2]; omega) (by unfold maxLen; omega) (Nat.le_refl _) ?_; intro w1 hown hgrow)
  have HW := Lib.hid (show OwnAt w1 w.heap.size 0 (List.replicate xs.length (default : Cg)) from own_of_row (α := Cg) (cap := xs.length) (e := 50) (base := w.heap.size) _ (by rw [← HZ.out, List.length_replicate]; exact hown))
  have hb1 : Below w.heap.size w w1 := (Below.refl _ _).grown hgrow (Nat.le_refl _) (fun k e => by cases e)
  have hs1 := (hown.lt w.heap.size rfl).2
  have HB1 := Lib.hid hb1
  clear hown hgrow hb1
  go_loopw [4] (fun i wr => ∃ (k : Nat) (ys : List Cg), k ≤ xs.length ∧ i = .int .i64 k ∧ ys.length = xs.length ∧ Hid (∀ i, i < k → it ys i = it xs i) ∧ Hid (OwnAt wr w.heap.size 0 ys) ∧ w.heap.size < wr.heap.size ∧ Below w.heap.size w wr) (fun i _ => xs.length - (intOf i).toNat)
  case atStart => exact ⟨0, _, Nat.zero_le _, rfl, by rw [List.length_replicate], Lib.hid (fun i hi => absurd hi (by omega)), HW, hs1, HB1.out⟩
  case round =>
    obtain ⟨k, ys, hk, rfl, hy, HI, HO, hs, hb⟩ := hrel
    by_cases hlt : k < xs.length
    · obtain ⟨b, o, rfl, hbl, hc⟩ := HR.out.cg (by omega)
      obtain ⟨c0, c1, c2, c3, c4, c5⟩ := (hc k hlt).below hb hbl
      have HB := Lib.hid hb
      clear hc hb
      go_wp2_with (go_at_call 32; refine (toChange_any (it xs k) _).mono ?_; rintro e w2 ⟨rfl, hb2⟩; unfold Cg.val; have HO2 := Lib.hid (HO.out.block (hb2.block _ hs)); have HB2 := Lib.hid (HB.out.trans (hb2.mono HB.out.size)); have hs2 := Nat.lt_of_lt_of_le hs hb2.size; obtain ⟨⟨d0, d1, d2, d3, d4, d5⟩, f0, f1, f2, f3, f4, f5⟩ := HO2.out.cg0 k (by omega); clear hb2)
      have HP := Lib.hid (HO2.out.put k (it xs k) (by omega))
      have HN := Lib.hid (putAt_only (S := fun i => i = w.heap.size) rfl (0 + k * 6) (Flat.cells (it xs k)) w2 w2 0 (Only.refl _ _))
      rw [Nat.zero_add] at HP HN
      go_roundw
      case rel => exact ⟨k + 1, _, by omega, by go_num, by rw [List.length_set]; exact hy, Lib.hid (fun i hi => by
        rw [it_set _ _ _ _ (by omega)]
        by_cases e : i = k
        · rw [if_pos e, e]
        · rw [if_neg e]; exact HI.out i (by omega)), HP, by simpa [World.setCell] using hs2, HB2.out.trans (HN.out.below (by omega) (fun k e => Nat.le_of_eq e.symm))⟩
      case measure => simp [intOf]; omega
    · obtain rfl : k = xs.length := by omega
      obtain rfl : ys = xs := it_ext _ _ hy (fun i hi => HI.out i (by omega))
      go_wp2
      go_ret
      exact ⟨rfl, HO.out, hs, hb⟩

theorem eqChange_yes (x : Cg) (w : World) :
    Calls Try.prog 51 #[x.val, x.val] w fun e w' => e = .returned (.bool true) ∧ Below w.heap.size w w' := by
  unfold Cg.val
  go_enter Try.func51, Try.ntmps51
  go_wp2
  go_ret
  refine ⟨rfl, ?_⟩
  go_grown
theorem eqChangeS_yes (A A' : Option Addr) (c c' : Nat) (xs : List Cg) (w : World) (hr : Lst w w.heap.size A xs) (hr' : Lst w w.heap.size A' xs) (hl : xs.length ≤ 1048576) :
    Calls Try.prog 18 #[.slice A xs.length c, .slice A' xs.length c'] w fun e w' => e = .returned (.bool true) ∧ Below w.heap.size w w' := by
  have HR := Lib.hid hr
  have HR' := Lib.hid hr'
  clear hr hr'
  go_enter Try.func18, Try.ntmps18
  go_wp2
  go_loopw [5] (fun i wr => ∃ k : Nat, k ≤ xs.length ∧ i = .int .i64 k ∧ Below w.heap.size w wr) (fun i _ => xs.length - (intOf i).toNat)
  case atStart => exact ⟨0, Nat.zero_le _, rfl, Below.refl _ _⟩
  case round =>
    obtain ⟨k, hk, rfl, hb⟩ := hrel
    by_cases hlt : k < xs.length
    · obtain ⟨b, o, rfl, hbl, hc⟩ := HR.out.cg (by omega)
      obtain ⟨b', o', rfl, hbl', hc'⟩ := HR'.out.cg (by omega)
      obtain ⟨c0, c1, c2, c3, c4, c5⟩ := (hc k hlt).below hb hbl
      obtain ⟨d0, d1, d2, d3, d4, d5⟩ := (hc' k hlt).below hb hbl'
      have hi1 : (0 : Int) ≤ (k : Int) := by omega
      have hi2 : (k : Int) < (xs.length : Int) := by omega
      have HB := Lib.hid hb
      clear hc hc' hb
      go_wp2
      go_region_with (go_at_call 51; (with_reducible refine (eqChange_yes (it xs k) _).mono ?_); rintro e w1 ⟨rfl, hb1⟩)
      all_goals
        have HB1 := Lib.hid (HB.out.trans ((Below.refl _ _).drew.trans (hb1.mono (by exact HB.out.size))))
        clear hb1
        go_simp
        go_wp2
        go_roundw
        case rel => exact ⟨k + 1, by omega, by go_num, HB1.out⟩
        case measure => simp [intOf]; omega
    · go_wp2
      go_ret
      exact ⟨rfl, hb⟩

def mkCg (k : Nat) : Cg := ⟨(k : Int), (k : Int) + 1, (k : Int) + 1 + 1, (k : Int) + 1 + 1 + 1, (k : Int) + 1 + 1 + 1 + 1, decide (((k : Int) + 1 + 1 + 1 + 1 + 1).tmod 3 = 0)⟩
/-- The marks of n of them from k on. -/
def marksCg (k n : Nat) : List Cg := (List.range n).map fun i => mkCg (k + i * 6)
theorem marksCg_len (k n : Nat) : (marksCg k n).length = n := by simp [marksCg]
theorem marksCg_it (k n i : Nat) (h : i < n) : it (marksCg k n) i = mkCg (k + i * 6) := by
  unfold it marksCg
  simp [h]
theorem markChangeS_any (S : Nat → Prop) (A : Option Addr) (c : Nat) (xs : List Cg) (k : Nat) (w : World) (hr : Owned S w A xs) (hl : xs.length ≤ 1048576) (hk : 0 < k) (hk2 : k ≤ 1000000000000000) :
    Calls Try.prog 22 #[.slice A xs.length c, .int .i64 k] w fun e w' => e = .returned (.int .i64 ((k + xs.length * 6 : Nat) : Int)) ∧ Owned S w' A (marksCg k xs.length) ∧ Only S w w' := by
  rcases Nat.eq_zero_or_pos xs.length with h0 | h0
  · obtain rfl : xs = [] := List.eq_nil_of_length_eq_zero h0
    clear hr h0
    go_enter Try.func22, Try.ntmps22
    go_wp2
    go_loop [1, 5] (fun q i => i = .int .i64 0 ∧ q = .int .i64 k) (fun _ _ => 0)
    case atStart => exact ⟨rfl, rfl⟩
    case round =>
      obtain ⟨rfl, rfl⟩ := hrel
      go_wp2
      go_ret
      exact ⟨by simp, Owned.nil _ _ _, Only.refl _ _⟩
  · obtain ⟨g, o, rfl, hg1, hg2, hc⟩ := hr h0
    have HG := Lib.hid hg1
    have HC := Lib.hid hc
    clear hr hc hg1
    go_enter Try.func22, Try.ntmps22
    go_wp2
    go_loopw [1, 5] (fun q i wr => ∃ (j : Nat) (ys : List Cg), j ≤ xs.length ∧ i = .int .i64 j ∧ q = .int .i64 ((k + j * 6 : Nat) : Int) ∧ ys.length = xs.length ∧ Hid (∀ i : Nat, i < j → it ys i = mkCg (k + i * 6)) ∧ Hid (OwnAt wr g o ys) ∧ g < wr.heap.size ∧ Only S w wr) (fun _ i _ => xs.length - (intOf i).toNat)
    case atStart => exact ⟨0, xs, Nat.zero_le _, rfl, by simp, rfl, Lib.hid (fun i hi => absurd hi (by omega)), HC, hg2, Only.refl _ _⟩
    case round =>
      obtain ⟨j, ys, hj, rfl, rfl, hy, HI, HO, hgs, ho⟩ := hrel
      have HN := Lib.hid ho
      clear ho
      by_cases hlt : j < xs.length
      · obtain ⟨⟨d0, d1, d2, d3, d4, d5⟩, f0, f1, f2, f3, f4, f5⟩ := HO.out.cg j (by omega)
        go_wp2
        have HP := Lib.hid (HO.out.put j (mkCg (k + j * 6)) (by omega))
        have HN3 := Lib.hid (putAt_only HG.out (o + j * 6) (Flat.cells (mkCg (k + j * 6))) w wr 0 HN.out)
        go_roundw
        case rel => exact ⟨j + 1, _, by omega, by go_num, by go_num, by rw [List.length_set]; exact hy, Lib.hid (fun i hi => by
          rw [it_set _ _ _ _ (by omega)]
          by_cases e : i = j
          · rw [if_pos e, e]
          · rw [if_neg e]; exact HI.out i (by omega)), HP, by simpa [World.setCell] using hgs, HN3.out⟩
        case measure => simp [intOf]; omega
      · obtain rfl : j = xs.length := by omega
        obtain rfl : ys = marksCg k xs.length := it_ext _ _ (by rw [marksCg_len]; exact hy) (fun i hi => by rw [marksCg_it _ _ _ (by omega)]; exact HI.out i (by omega))
        go_wp2
        go_ret
        exact ⟨rfl, fun _ => ⟨g, o, rfl, HG.out, Nat.lt_of_lt_of_le hg2 HN.out.size, HO.out⟩, HN.out⟩
theorem heldChangeS_any (A : Option Addr) (c n k : Nat) (w : World) (hr : Lst w w.heap.size A (marksCg k n)) (hl : n ≤ 1048576) (hk : 0 < k) (hk2 : k ≤ 1000000000000000) :
    Calls Try.prog 34 #[.slice A n c, .int .i64 k] w fun e w' => e = .returned (.int .i64 ((k + n * 6 : Nat) : Int)) ∧ Below w.heap.size w w' := by
  have HR := Lib.hid hr
  clear hr
  go_enter Try.func34, Try.ntmps34
  go_wp2
  go_loopw [1, 5] (fun q i wr => ∃ j : Nat, j ≤ n ∧ i = .int .i64 j ∧ q = .int .i64 ((k + j * 6 : Nat) : Int) ∧ Below w.heap.size w wr) (fun _ i _ => n - (intOf i).toNat)
  case atStart => exact ⟨0, Nat.zero_le _, rfl, by simp, Below.refl _ _⟩
  case round =>
    obtain ⟨j, hj, rfl, rfl, hb⟩ := hrel
    by_cases hlt : j < n
    · obtain ⟨b, o, rfl, hbl, hc⟩ := HR.out.cg (by rw [marksCg_len]; omega)
      have hcj := hc j (by rw [marksCg_len]; omega)
      rw [marksCg_it _ _ _ hlt] at hcj
      obtain ⟨d0, d1, d2, d3, d4, d5⟩ := hcj.below hb hbl
      have e0 : wr.cell? ⟨b, o + j * 6, none⟩ = some (.int .i64 ((k : Int) + (j : Int) * 6)) := d0
      have e1 : wr.cell? ⟨b, o + j * 6 + 1, none⟩ = some (.int .i64 ((k : Int) + (j : Int) * 6 + 1)) := d1
      have e2 : wr.cell? ⟨b, o + j * 6 + 2, none⟩ = some (.int .i64 ((k : Int) + (j : Int) * 6 + 1 + 1)) := d2
      have e3 : wr.cell? ⟨b, o + j * 6 + 3, none⟩ = some (.int .i64 ((k : Int) + (j : Int) * 6 + 1 + 1 + 1)) := d3
      have e4 : wr.cell? ⟨b, o + j * 6 + 4, none⟩ = some (.int .i64 ((k : Int) + (j : Int) * 6 + 1 + 1 + 1 + 1)) := d4
      have e5 : wr.cell? ⟨b, o + j * 6 + 5, none⟩ = some (.bool (((k : Int) + (j : Int) * 6 + 1 + 1 + 1 + 1 + 1) % 3 == 0)) := by
        rw [d5]
        show some (Value.bool (decide ((((k + j * 6 : Nat) : Int) + 1 + 1 + 1 + 1 + 1).tmod 3 = 0))) = _
        rw [Int.tmod_eq_emod_of_nonneg (by omega)]
        congr 2
      have hi1 : (0 : Int) ≤ (j : Int) := by omega
      have hi2 : (j : Int) < (n : Int) := by omega
      have HB := Lib.hid hb
      clear hc hb hcj d0 d1 d2 d3 d4 d5
      go_wp2
      all_goals
        go_roundw
        case rel => exact ⟨j + 1, by omega, by go_num, by go_num, HB.out⟩
        case measure => simp [intOf]; omega
    · obtain rfl : j = n := by omega
      go_wp2
      go_ret
      exact ⟨rfl, hb⟩
end Go.Proofs.Ythbkfekbpjkhnaa
