/- Elements: a string and three ints; slices of them, as the laws' helpers read and copy them. Elements compared. Marks: the laws' text of a mark; elements marked and held. Elements held. Codes: elements, limits and four ints; as the laws' helpers measure, copy, compare and mark them. What makes a name, an element and a code valid; no program in it. Names of elements, in the program and in the model. Codes compared, marked and held. What the readings of elements and codes say of their cells. The program's own table of bounds: what its reading says of its cells. -/
import Derived.Test.YtnlcdfaojcnkpaaDoorBa
import Derived.RegionTactic
import Derived.Deep.RegionHeld3
import Derived.Laws.IdiomStrings
import Derived.PlainAid
import Derived.WalkLawsBesides
import Derived.MakeChecks
import Derived.WalkSmall
import Derived.Lib.LaidTab
namespace Go.Proofs.YtnlcdfaojcnkpaaDoor
open Go.ChangeShapes Go.WideShapes Go.ChangeAt Go.RowKit
set_option linter.unusedVariables false

structure El where
  name : ByteArray
  fam : Int
  lev : Int
  base : Int
def El.cs (x : El) : List Value := [.string x.name, .int .i64 x.fam, .int .i64 x.lev, .int .i64 x.base]
instance : Flat El where
  default := ⟨⟨#[]⟩, 0, 0, 0⟩
  sz := 4
  cells := El.cs
  len := fun _ => rfl
@[reducible] def El.val (x : El) : Value := .agg #[.string x.name, .int .i64 x.fam, .int .i64 x.lev, .int .i64 x.base]
/-- The four cells of an element. -/
structure ElAt (w : World) (b o : Nat) (x : El) : Prop where
  c0 : w.cell? ⟨b, o, none⟩ = some (.string x.name)
  c1 : w.cell? ⟨b, o + 1, none⟩ = some (.int .i64 x.fam)
  c2 : w.cell? ⟨b, o + 2, none⟩ = some (.int .i64 x.lev)
  c3 : w.cell? ⟨b, o + 3, none⟩ = some (.int .i64 x.base)
theorem elAt {w : World} {b o : Nat} {x : El} (h : CellsAt w b o (Flat.cells x)) : ElAt w b o x :=
  ⟨h 0 _ rfl, h 1 _ rfl, h 2 _ rfl, h 3 _ rfl⟩

theorem Lst.el {w : World} {B : Nat} {A : Option Addr} {xs : List El} (h : Lst w B A xs) (hp : 0 < xs.length) : ∃ b o, A = some ⟨b, o, none⟩ ∧ b < B ∧ ∀ i, i < xs.length → ElAt w b (o + i * 4) (it xs i) := by
  obtain ⟨b, o, h1, h2, h3⟩ := h hp
  exact ⟨b, o, h1, h2, fun i hi => elAt (h3 i hi)⟩
theorem ElAt.below {w w' : World} {B b o : Nat} {x : El} (h : ElAt w b o x) (hb : Below B w w') (hB : b < B) : ElAt w' b o x :=
  ⟨(hb.cell (p := ⟨b, o, none⟩) hB).trans h.c0, (hb.cell (p := ⟨b, o + 1, none⟩) hB).trans h.c1, (hb.cell (p := ⟨b, o + 2, none⟩) hB).trans h.c2, (hb.cell (p := ⟨b, o + 3, none⟩) hB).trans h.c3⟩

/-- The four cells of an element that may be written. -/
structure ElOwn (w : World) (b o : Nat) (x : El) : Prop extends ElAt w b o x where
  f0 : w.frozen? ⟨b, o, none⟩ = false
  f1 : w.frozen? ⟨b, o + 1, none⟩ = false
  f2 : w.frozen? ⟨b, o + 2, none⟩ = false
  f3 : w.frozen? ⟨b, o + 3, none⟩ = false
theorem OwnAt.el0 {w : World} {g : Nat} {xs : List El} (h : OwnAt w g 0 xs) (i : Nat) (hi : i < xs.length) : ElOwn w g (i * 4) (it xs i) := by
  have h1 := h.cell i hi
  have h2 := fun j => h.free i j hi
  rw [Nat.zero_add] at h1 h2
  exact ⟨elAt h1, h2 0 (by decide), h2 1 (by decide), h2 2 (by decide), h2 3 (by decide)⟩
theorem OwnAt.el {w : World} {g o : Nat} {xs : List El} (h : OwnAt w g o xs) (i : Nat) (hi : i < xs.length) : ElOwn w g (o + i * 4) (it xs i) := by
  have h1 := h.cell i hi
  have h2 := fun j => h.free i j hi
  exact ⟨elAt h1, h2 0 (by decide), h2 1 (by decide), h2 2 (by decide), h2 3 (by decide)⟩

theorem szElement_any (x : El) (left : Int) (w : World) (h0 : 0 ≤ left) (h1 : left ≤ 1048576) (hx : x.name.size ≤ 9223372036854775807) :
    Calls Tryd.prog 61 #[x.val, .int .i64 left] w fun e w' => (∃ q : Int, e = .returned (.int .i64 q) ∧ (q < 0 ∨ 0 ≤ q ∧ q ≤ left ∧ x.name.size ≤ 1048576)) ∧ Below w.heap.size w w' := by
  unfold El.val
  go_enter Tryd.func61, Tryd.ntmps61
  by_cases h : left - (x.name.size : Int) < 0
  · go_wp2
    go_ret
    exact ⟨⟨_, rfl, by omega⟩, (Below.refl _ _).alloc (Nat.le_refl _) _⟩
  · go_wp2
    go_ret
    exact ⟨⟨_, rfl, by omega⟩, (Below.refl _ _).alloc (Nat.le_refl _) _⟩
def Fits (xs : List El) : Prop := xs.length ≤ 1048576 ∧ ∀ i, i < xs.length → (it xs i).name.size ≤ 1048576
theorem szElementS_any (A : Option Addr) (c : Nat) (xs : List El) (left : Int) (w : World) (hr : Lst w w.heap.size A xs) (hl : xs.length ≤ 9223372036854775807) (hn : ∀ i, i < xs.length → (it xs i).name.size ≤ 9223372036854775807) (h0 : 0 ≤ left) (h1 : left ≤ 1048576)  :
    Calls Tryd.prog 30 #[.slice A xs.length c, .int .i64 left] w fun e w' => (∃ q : Int, e = .returned (.int .i64 q) ∧ (q < 0 ∨ 0 ≤ q ∧ q ≤ left ∧ Hid (Fits xs))) ∧ Below w.heap.size w w' := by
  have HR := Lib.hid hr
  have HN := Lib.hid hn
  clear hr hn
  go_enter Tryd.func30, Tryd.ntmps30
  by_cases h : left - (xs.length : Int) < 0
  · go_wp2
    go_ret
    exact ⟨⟨_, rfl, by omega⟩, Below.refl _ _⟩
  · go_wp2
    go_loopw [1, 5] (fun q i wr => ∃ (k : Nat) (p : Int), k ≤ xs.length ∧ i = .int .i64 k ∧ q = .int .i64 p ∧ 0 ≤ p ∧ p ≤ left ∧ Hid (∀ i, i < k → (it xs i).name.size ≤ 1048576) ∧ Below w.heap.size w wr) (fun _ i _ => xs.length - (intOf i).toNat)
    case atStart => exact ⟨0, left - (xs.length : Int), by omega, rfl, rfl, by omega, by omega, Lib.hid (fun i hi => absurd hi (by omega)), Below.refl _ _⟩
    case round =>
      obtain ⟨k, p, hk, rfl, rfl, hp0, hp1, HA, hb⟩ := hrel
      by_cases hlt : k < xs.length
      · obtain ⟨b, o, rfl, hbl, hc⟩ := HR.out.el (by omega)
        obtain ⟨c0, c1, c2, c3⟩ := (hc k hlt).below hb hbl
        have hs := HN.out k hlt
        have HB := Lib.hid hb
        clear hc hb
        go_wp2_with (go_at_call 61; refine (szElement_any (it xs k) _ _ hp0 (by omega) hs).mono ?_; rintro e w2 ⟨⟨q, rfl, hq⟩, hb2⟩; have HQ := Lib.hid hq; have HB2 := Lib.hid (HB.out.trans (hb2.mono HB.out.size)); clear hb2 hq)
        · go_ret
          exact ⟨⟨_, rfl, by omega⟩, HB2.out⟩
        · obtain ⟨hq0, hq1, hq2⟩ : 0 ≤ q ∧ q ≤ p ∧ (it xs k).name.size ≤ 1048576 := by have := HQ.out; omega
          go_roundw
          case rel => exact ⟨k + 1, q, by omega, by go_num, rfl, hq0, by omega, Lib.hid (fun i hi => by
            rcases Nat.lt_or_ge i k with h | h
            · exact HA.out i h
            · obtain rfl : i = k := by omega
              exact hq2), HB2.out⟩
          case measure => simp [intOf]; omega
      · obtain rfl : k = xs.length := by omega
        go_wp2
        go_ret
        exact ⟨⟨_, rfl, .inr ⟨hp0, hp1, Lib.hid ⟨by omega, HA.out⟩⟩⟩, hb⟩

theorem toElement_any (x : El) (w : World) :
    Calls Tryd.prog 66 #[x.val] w fun e w' => e = .returned x.val ∧ Below w.heap.size w w' := by
  unfold El.val
  go_enter Tryd.func66, Tryd.ntmps66
  go_wp2
  go_returns
  refine ⟨rfl, ?_⟩
  go_grown

theorem Tryd.infoEl : (Tryd.prog.info? 64).map (fun i => (i.zero, i.size, i.bytes)) = some (some (.agg #[.string ⟨#[]⟩, .int .i64 0, .int .i64 0, .int .i64 0]), 4, 40) := by kernel_rfl
theorem toElementS_any (A : Option Addr) (c : Nat) (xs : List El) (w : World) (hr : Lst w w.heap.size A xs) (hl : xs.length ≤ 1048576) :
    Calls Tryd.prog 34 #[.slice A xs.length c] w fun e w' => e = .returned (.slice (some ⟨w.heap.size, 0, none⟩) xs.length xs.length) ∧ OwnAt w' w.heap.size 0 xs ∧ w.heap.size < w'.heap.size ∧ Below w.heap.size w w' := by
  have HR := Lib.hid hr
  clear hr
  obtain ⟨i0, hi, hz0, hz1, hz2⟩ := info_parts Tryd.infoEl
  have HZ := Lib.hid (made_flat (α := El) #[.string ⟨#[]⟩, .int .i64 0, .int .i64 0, .int .i64 0] default xs.length rfl (by decide))
  go_enter Tryd.func34, Tryd.ntmps34
  go_wp2_with (at_make; refine wpList_make_full _ rfl (.tmp 6) (.tmp 6) 29 rfl w.heap.size 64 i0 (.agg #[.string ⟨#[]⟩, .int .i64 0, .int .i64 0, .int .i64 0]) 4 Tryd.underlying29 hi hz0 hz1 .i64 .i64 _ _ xs.length rfl rfl rfl rfl (by rw [hz2]; omega) (by unfold maxLen; omega) (Nat.le_refl _) ?_; intro w1 hown hgrow)
  have HW := Lib.hid (show OwnAt w1 w.heap.size 0 (List.replicate xs.length (default : El)) from own_of_row (α := El) (cap := xs.length) (e := 64) (base := w.heap.size) _ (by rw [← HZ.out, List.length_replicate]; exact hown))
  have hb1 : Below w.heap.size w w1 := (Below.refl _ _).grown hgrow (Nat.le_refl _) (fun k e => by cases e)
  have hs1 := (hown.lt w.heap.size rfl).2
  have HB1 := Lib.hid hb1
  clear hown hgrow hb1
  go_loopw [4] (fun i wr => ∃ (k : Nat) (ys : List El), k ≤ xs.length ∧ i = .int .i64 k ∧ ys.length = xs.length ∧ Hid (∀ i, i < k → it ys i = it xs i) ∧ Hid (OwnAt wr w.heap.size 0 ys) ∧ w.heap.size < wr.heap.size ∧ Below w.heap.size w wr) (fun i _ => xs.length - (intOf i).toNat)
  case atStart => exact ⟨0, _, Nat.zero_le _, rfl, by rw [List.length_replicate], Lib.hid (fun i hi => absurd hi (by omega)), HW, hs1, HB1.out⟩
  case round =>
    obtain ⟨k, ys, hk, rfl, hy, HI, HO, hs, hb⟩ := hrel
    by_cases hlt : k < xs.length
    · obtain ⟨b, o, rfl, hbl, hc⟩ := HR.out.el (by omega)
      obtain ⟨c0, c1, c2, c3⟩ := (hc k hlt).below hb hbl
      have HB := Lib.hid hb
      clear hc hb
      go_wp2_with (go_at_call 66; refine (toElement_any (it xs k) _).mono ?_; rintro e w2 ⟨rfl, hb2⟩; unfold El.val; have HO2 := Lib.hid (HO.out.block (hb2.block _ hs)); have HB2 := Lib.hid (HB.out.trans (hb2.mono HB.out.size)); have hs2 := Nat.lt_of_lt_of_le hs hb2.size; obtain ⟨⟨d0, d1, d2, d3⟩, f0, f1, f2, f3⟩ := HO2.out.el0 k (by omega); clear hb2)
      have HP := Lib.hid (HO2.out.put k (it xs k) (by omega))
      have HN := Lib.hid (putAt_only (S := fun i => i = w.heap.size) rfl (0 + k * 4) (Flat.cells (it xs k)) w2 w2 0 (Only.refl _ _))
      rw [Nat.zero_add] at HP HN
      go_roundw
      case rel => exact ⟨k + 1, _, by omega, by go_num, by rw [List.length_set]; exact hy, Lib.hid (fun i hi => by
        rw [it_set _ _ _ _ (by omega)]
        by_cases e : i = k
        · rw [if_pos e, e]
        · rw [if_neg e]; exact HI.out i (by omega)), HP, by simpa [World.setCell] using hs2, HB2.out.trans (HN.out.below (by omega) (fun k e => Nat.le_of_eq e.symm))⟩
      case measure => simp [intOf]; omega
    · obtain rfl : k = xs.length := by omega
      obtain rfl : ys = xs := it_ext _ _ hy (fun i hi => HI.out i (by omega))
      go_wp2
      go_ret
      exact ⟨rfl, HO.out, hs, hb⟩
end Go.Proofs.YtnlcdfaojcnkpaaDoor

namespace Go.Proofs.YtnlcdfaojcnkpaaDoor
open Go.ChangeShapes Go.WideShapes Go.ChangeAt Go.RowKit
set_option linter.unusedVariables false

theorem eqElement_yes (x : El) (w : World) :
    Calls Tryd.prog 71 #[x.val, x.val] w fun e w' => e = .returned (.bool true) ∧ Below w.heap.size w w' := by
  unfold El.val
  go_enter Tryd.func71, Tryd.ntmps71
  go_wp2
  go_ret
  refine ⟨rfl, ?_⟩
  go_grown

theorem eqElementS_yes (A A' : Option Addr) (c c' : Nat) (xs : List El) (w : World) (hr : Lst w w.heap.size A xs) (hr' : Lst w w.heap.size A' xs) (hl : xs.length ≤ 1048576) :
    Calls Tryd.prog 38 #[.slice A xs.length c, .slice A' xs.length c'] w fun e w' => e = .returned (.bool true) ∧ Below w.heap.size w w' := by
  have HR := Lib.hid hr
  have HR' := Lib.hid hr'
  clear hr hr'
  go_enter Tryd.func38, Tryd.ntmps38
  go_wp2
  go_loopw [5] (fun i wr => ∃ k : Nat, k ≤ xs.length ∧ i = .int .i64 k ∧ Below w.heap.size w wr) (fun i _ => xs.length - (intOf i).toNat)
  case atStart => exact ⟨0, Nat.zero_le _, rfl, Below.refl _ _⟩
  case round =>
    obtain ⟨k, hk, rfl, hb⟩ := hrel
    by_cases hlt : k < xs.length
    · obtain ⟨b, o, rfl, hbl, hc⟩ := HR.out.el (by omega)
      obtain ⟨b', o', rfl, hbl', hc'⟩ := HR'.out.el (by omega)
      obtain ⟨c0, c1, c2, c3⟩ := (hc k hlt).below hb hbl
      obtain ⟨d0, d1, d2, d3⟩ := (hc' k hlt).below hb hbl'
      have hi1 : (0 : Int) ≤ (k : Int) := by omega
      have hi2 : (k : Int) < (xs.length : Int) := by omega
      have HB := Lib.hid hb
      clear hc hc' hb
      go_wp2
      go_region_with (go_at_call 71; (with_reducible refine (eqElement_yes (it xs k) _).mono ?_); rintro e w1 ⟨rfl, hb1⟩)
      all_goals
        have HB1 := Lib.hid (HB.out.trans ((Below.refl _ _).drew.trans (hb1.mono (by exact HB.out.size))))
        clear hb1
        go_simp
        go_wp2
        go_roundw
        case rel => exact ⟨k + 1, by omega, by go_num, HB1.out⟩
        case measure => simp [intOf]; omega
    · go_wp2
      go_ret
      exact ⟨rfl, hb⟩
end Go.Proofs.YtnlcdfaojcnkpaaDoor

namespace Go.Proofs.YtnlcdfaojcnkpaaDoor
open Go.ChangeShapes Go.WideShapes Go.ChangeAt Go.RowKit
set_option linter.unusedVariables false

def mkEl (k : Nat) : El := ⟨mkText k, (k : Int) + 1, (k : Int) + 1 + 1, (k : Int) + 1 + 1 + 1⟩
/-- The marks of n elements from k on. -/
def marksEl (k n : Nat) : List El := (List.range n).map fun i => mkEl (k + i * 4)
theorem marksEl_len (k n : Nat) : (marksEl k n).length = n := by simp [marksEl]
theorem marksEl_it (k n i : Nat) (h : i < n) : it (marksEl k n) i = mkEl (k + i * 4) := by
  unfold it marksEl
  simp [h]

theorem markElementS_any (S : Nat → Prop) (A : Option Addr) (c : Nat) (xs : List El) (k : Nat) (w : World) (hr : Owned S w A xs) (hl : xs.length ≤ 1048576) (hk : 0 < k) (hk2 : k ≤ 100000000000) :
    Calls Tryd.prog 43 #[.slice A xs.length c, .int .i64 k] w fun e w' => e = .returned (.int .i64 ((k + xs.length * 4 : Nat) : Int)) ∧ Owned S w' A (marksEl k xs.length) ∧ Only S w w' := by
  rcases Nat.eq_zero_or_pos xs.length with h0 | h0
  · obtain rfl : xs = [] := List.eq_nil_of_length_eq_zero h0
    clear hr h0
    go_enter Tryd.func43, Tryd.ntmps43
    go_wp2
    go_loop [1, 5] (fun q i => i = .int .i64 0 ∧ q = .int .i64 k) (fun _ _ => 0)
    case atStart => exact ⟨rfl, rfl⟩
    case round =>
      obtain ⟨rfl, rfl⟩ := hrel
      go_wp2
      go_ret
      exact ⟨by simp, Owned.nil _ _ _, Only.refl _ _⟩
  · obtain ⟨g, o, rfl, hg1, hg2, hc⟩ := hr h0
    have HG := Lib.hid hg1
    have HC := Lib.hid hc
    clear hr hc hg1
    go_enter Tryd.func43, Tryd.ntmps43
    go_wp2
    go_loopw [1, 5] (fun q i wr => ∃ (j : Nat) (ys : List El), j ≤ xs.length ∧ i = .int .i64 j ∧ q = .int .i64 ((k + j * 4 : Nat) : Int) ∧ ys.length = xs.length ∧ Hid (∀ i : Nat, i < j → it ys i = mkEl (k + i * 4)) ∧ Hid (OwnAt wr g o ys) ∧ g < wr.heap.size ∧ Only S w wr) (fun _ i _ => xs.length - (intOf i).toNat)
    case atStart => exact ⟨0, xs, Nat.zero_le _, rfl, by simp, rfl, Lib.hid (fun i hi => absurd hi (by omega)), HC, hg2, Only.refl _ _⟩
    case round =>
      obtain ⟨j, ys, hj, rfl, rfl, hy, HI, HO, hgs, ho⟩ := hrel
      have HN := Lib.hid ho
      clear ho
      by_cases hlt : j < xs.length
      · go_wp2_with (go_at_call 75; refine (markText_any (k + j * 4) _ (by omega) (by omega)).mono ?_; rintro e w2 ⟨rfl, hb2⟩; have HO2 := Lib.hid (HO.out.block (hb2.block _ hgs)); have HN2 := Lib.hid (HN.out.trans (Only.of_below hb2 (Nat.le_refl _))); have hs2 := Nat.lt_of_lt_of_le hgs hb2.size; obtain ⟨⟨d0, d1, d2, d3⟩, f0, f1, f2, f3⟩ := HO2.out.el j (by omega); clear hb2)
        have HP := Lib.hid (HO2.out.put j (mkEl (k + j * 4)) (by omega))
        have HN3 := Lib.hid (putAt_only HG.out (o + j * 4) (Flat.cells (mkEl (k + j * 4))) w w2 0 HN2.out)
        go_roundw
        case rel => exact ⟨j + 1, _, by omega, by go_num, by go_num, by rw [List.length_set]; exact hy, Lib.hid (fun i hi => by
          rw [it_set _ _ _ _ (by omega)]
          by_cases e : i = j
          · rw [if_pos e, e]
          · rw [if_neg e]; exact HI.out i (by omega)), HP, by simpa [World.setCell] using hs2, HN3.out⟩
        case measure => simp [intOf]; omega
      · obtain rfl : j = xs.length := by omega
        obtain rfl : ys = marksEl k xs.length := it_ext _ _ (by rw [marksEl_len]; exact hy) (fun i hi => by rw [marksEl_it _ _ _ (by omega)]; exact HI.out i (by omega))
        go_wp2
        go_ret
        exact ⟨rfl, fun _ => ⟨g, o, rfl, HG.out, Nat.lt_of_lt_of_le hg2 HN.out.size, HO.out⟩, HN.out⟩

end Go.Proofs.YtnlcdfaojcnkpaaDoor

namespace Go.Proofs.YtnlcdfaojcnkpaaDoor
open Go.ChangeShapes Go.WideShapes Go.ChangeAt Go.RowKit
set_option linter.unusedVariables false

theorem heldElementS_any (A : Option Addr) (c n k : Nat) (w : World) (hr : Lst w w.heap.size A (marksEl k n)) (hl : n ≤ 1048576) (hk : 0 < k) (hk2 : k ≤ 100000000000) :
    Calls Tryd.prog 44 #[.slice A n c, .int .i64 k] w fun e w' => e = .returned (.int .i64 ((k + n * 4 : Nat) : Int)) ∧ Below w.heap.size w w' := by
  have HR := Lib.hid hr
  clear hr
  go_enter Tryd.func44, Tryd.ntmps44
  go_wp2
  go_loopw [1, 5] (fun q i wr => ∃ j : Nat, j ≤ n ∧ i = .int .i64 j ∧ q = .int .i64 ((k + j * 4 : Nat) : Int) ∧ Below w.heap.size w wr) (fun _ i _ => n - (intOf i).toNat)
  case atStart => exact ⟨0, Nat.zero_le _, rfl, by simp, Below.refl _ _⟩
  case round =>
    obtain ⟨j, hj, rfl, rfl, hb⟩ := hrel
    by_cases hlt : j < n
    · obtain ⟨b, o, rfl, hbl, hc⟩ := HR.out.el (by rw [marksEl_len]; omega)
      have hcj := hc j (by rw [marksEl_len]; omega)
      rw [marksEl_it _ _ _ hlt] at hcj
      have HC := Lib.hid hcj
      have hbs := Nat.lt_of_lt_of_le hbl hb.size
      have c0 : wr.cell? ⟨b, o + j * 4, none⟩ = some (.string (mkText (k + j * 4))) := (hcj.below hb hbl).c0
      have HB := Lib.hid hb
      have hi1 : (0 : Int) ≤ (j : Int) := by omega
      have hi2 : (j : Int) < (n : Int) := by omega
      clear hc hb hcj
      go_wp2
      go_region_with (go_at_call 75; (with_reducible refine (markText_i ((k : Int) + (j : Int) * 4) (k + j * 4) _ (by omega) (by omega) (by omega)).mono ?_); rintro e w1 ⟨rfl, hb1⟩; have c0' := (hb1.cell (p := ⟨b, o + j * 4, none⟩) hbs).trans c0)
      all_goals
        have HB1 := Lib.hid (HB.out.trans ((Below.refl _ _).drew.trans (hb1.mono (by exact HB.out.size))))
        obtain ⟨d0, d1, d2, d3⟩ := HC.out.below HB1.out hbl
        have e1 : w1.cell? ⟨b, o + j * 4 + 1, none⟩ = some (.int .i64 ((k : Int) + (j : Int) * 4 + 1)) := d1
        have e2 : w1.cell? ⟨b, o + j * 4 + 2, none⟩ = some (.int .i64 ((k : Int) + (j : Int) * 4 + 1 + 1)) := d2
        have e3 : w1.cell? ⟨b, o + j * 4 + 3, none⟩ = some (.int .i64 ((k : Int) + (j : Int) * 4 + 1 + 1 + 1)) := d3
        clear hb1 d0 d1 d2 d3 c0 c0'
        go_simp
        go_wp2
        go_roundw
        case rel => exact ⟨j + 1, by omega, by go_num, by go_num, HB1.out⟩
        case measure => simp [intOf]; omega
    · obtain rfl : j = n := by omega
      go_wp2
      go_ret
      exact ⟨rfl, hb⟩
end Go.Proofs.YtnlcdfaojcnkpaaDoor

namespace Go.Proofs.YtnlcdfaojcnkpaaDoor
open Go.ChangeShapes Go.WideShapes Go.ChangeAt Go.RowKit
set_option linter.unusedVariables false

structure Cd where
  els : List El
  lims : List Int
  rep : Int
  bon : Int
  kee : Int
  fal : Int
@[reducible] def Cd.val (x : Cd) (A : Option Addr) (c : Nat) (L : Option Addr) (d : Nat) : Value :=
  .agg #[.slice A x.els.length c, .slice L x.lims.length d, .int .i64 x.rep, .int .i64 x.bon, .int .i64 x.kee, .int .i64 x.fal]
structure CdAt (w : World) (A L : Option Addr) (x : Cd) : Prop where
  els : Lst w w.heap.size A x.els
  lims : Lst w w.heap.size L x.lims
theorem CdAt.below {w w' : World} {A L : Option Addr} {x : Cd} (h : CdAt w A L x) (hb : Below w.heap.size w w') : CdAt w' A L x :=
  ⟨(h.els.below hb (Nat.le_refl _)).up hb.size, (h.lims.below hb (Nat.le_refl _)).up hb.size⟩
def CdFits (x : Cd) : Prop := Fits x.els ∧ x.lims.length ≤ 1048576
/-- No slice and no string is longer than the memory can hold. -/
structure CdLen (x : Cd) : Prop where
  els : x.els.length ≤ 9223372036854775807
  names : ∀ i, i < x.els.length → (it x.els i).name.size ≤ 9223372036854775807
  lims : x.lims.length ≤ 9223372036854775807

/-- The cells of a code that lies in block b. -/
structure CdBox (w : World) (b : Nat) (A : Option Addr) (c : Nat) (L : Option Addr) (d : Nat) (x : Cd) : Prop where
  c0 : w.cell? ⟨b, 0, none⟩ = some (.slice A x.els.length c)
  c1 : w.cell? ⟨b, 1, none⟩ = some (.slice L x.lims.length d)
  c2 : w.cell? ⟨b, 2, none⟩ = some (.int .i64 x.rep)
  c3 : w.cell? ⟨b, 3, none⟩ = some (.int .i64 x.bon)
  c4 : w.cell? ⟨b, 4, none⟩ = some (.int .i64 x.kee)
  c5 : w.cell? ⟨b, 5, none⟩ = some (.int .i64 x.fal)
theorem CdBox.below {w w' : World} {B b : Nat} {A : Option Addr} {c : Nat} {L : Option Addr} {d : Nat} {x : Cd} (h : CdBox w b A c L d x) (hb : Below B w w') (hB : b < B) : CdBox w' b A c L d x :=
  ⟨(hb.cell (p := ⟨b, 0, none⟩) hB).trans h.c0, (hb.cell (p := ⟨b, 1, none⟩) hB).trans h.c1, (hb.cell (p := ⟨b, 2, none⟩) hB).trans h.c2, (hb.cell (p := ⟨b, 3, none⟩) hB).trans h.c3, (hb.cell (p := ⟨b, 4, none⟩) hB).trans h.c4, (hb.cell (p := ⟨b, 5, none⟩) hB).trans h.c5⟩
theorem cdBox_new (w : World) (b : Nat) (t : TypeId) (hb : w.heap.size = b) (A : Option Addr) (c : Nat) (L : Option Addr) (d : Nat) (x : Cd) :
    CdBox (w.alloc (.cells #[.slice A x.els.length c, .slice L x.lims.length d, .int .i64 x.rep, .int .i64 x.bon, .int .i64 x.kee, .int .i64 x.fal] t)) b A c L d x := by
  subst hb
  constructor <;> simp

theorem szCode_any (A L : Option Addr) (c d : Nat) (x : Cd) (w : World) (hr : CdAt w A L x) (hl : CdLen x) :
    Calls Tryd.prog 7 #[x.val A c L d, .int .i64 1048576] w fun e w' => (∃ q : Int, e = .returned (.int .i64 q) ∧ (q < 0 ∨ 0 ≤ q ∧ q ≤ 1048576 ∧ Hid (CdFits x))) ∧ Below w.heap.size w w' := by
  have hb0 : Below w.heap.size w (w.alloc (.cells #[.slice A x.els.length c, .slice L x.lims.length d, .int .i64 x.rep, .int .i64 x.bon, .int .i64 x.kee, .int .i64 x.fal] 25)) := (Below.refl _ _).alloc (Nat.le_refl _) _
  have HR := Lib.hid (hr.below hb0)
  have HX := Lib.hid (cdBox_new w _ 25 rfl A c L d x)
  have HB0 := Lib.hid hb0
  have hs0 : w.heap.size < (w.alloc (.cells #[.slice A x.els.length c, .slice L x.lims.length d, .int .i64 x.rep, .int .i64 x.bon, .int .i64 x.kee, .int .i64 x.fal] 25)).heap.size := by simp
  have HS0 := Lib.hid hs0
  have HL := Lib.hid hl
  clear hr hl hb0 hs0
  unfold Cd.val
  go_enter Tryd.func7, Tryd.ntmps7
  go_wp2_with (go_at_call 30; refine (szElementS_any A c x.els _ _ HR.out.els HL.out.els HL.out.names (by omega) (by omega)).mono ?_; rintro e w2 ⟨⟨q, rfl, hq⟩, hb2⟩; have HQ := Lib.hid hq; have HB2 := Lib.hid (HB0.out.trans (hb2.mono (by exact Nat.le_of_lt HS0.out))); have k1 := (HX.out.below hb2 HS0.out).c1; clear hq hb2)
  · go_ret
    exact ⟨⟨_, rfl, .inl (by omega)⟩, HB2.out⟩
  · obtain ⟨h1, h2, h3⟩ : 0 ≤ q ∧ q ≤ 1048576 ∧ Hid (Fits x.els) := by
      rcases HQ.out with h | h
      · omega
      · exact h
    go_wp2_with (go_at_call 31; refine (szIntS_any L d x.lims _ _ HL.out.lims (by omega) (by omega)).mono ?_; rintro e w3 ⟨⟨p, rfl, hp⟩, rfl⟩; have HP := Lib.hid hp; clear hp)
    · go_ret
      exact ⟨⟨_, rfl, .inl (by omega)⟩, HB2.out⟩
    · go_ret
      refine ⟨⟨_, rfl, .inr ?_⟩, HB2.out⟩
      rcases HP.out with h | h
      · omega
      · exact ⟨h.1, by omega, Lib.hid ⟨h3.out, h.2.2⟩⟩

/-- A code in memory of its own: two blocks from B on. -/
structure CdNew (w : World) (B g1 g2 : Nat) (x : Cd) : Prop where
  els : OwnAt w g1 0 x.els
  lims : OwnAt w g2 0 x.lims
  le1 : B ≤ g1
  le2 : B ≤ g2
  lt1 : g1 < w.heap.size
  lt2 : g2 < w.heap.size
  ne : g1 ≠ g2
theorem CdNew.at_ {w : World} {B g1 g2 : Nat} {x : Cd} (h : CdNew w B g1 g2 x) : CdAt w (some ⟨g1, 0, none⟩) (some ⟨g2, 0, none⟩) x :=
  ⟨fun _ => ⟨g1, 0, rfl, h.lt1, h.els.cell⟩, fun _ => ⟨g2, 0, rfl, h.lt2, h.lims.cell⟩⟩

/-- Six cells that may be written. -/
structure CdMem (w : World) (b : Nat) (v0 v1 v2 v3 v4 v5 : Value) : Prop where
  c0 : w.cell? ⟨b, 0, none⟩ = some v0
  c1 : w.cell? ⟨b, 1, none⟩ = some v1
  c2 : w.cell? ⟨b, 2, none⟩ = some v2
  c3 : w.cell? ⟨b, 3, none⟩ = some v3
  c4 : w.cell? ⟨b, 4, none⟩ = some v4
  c5 : w.cell? ⟨b, 5, none⟩ = some v5
  fr : ∀ j, w.frozen? ⟨b, j, none⟩ = false
theorem CdMem.below {w w' : World} {B b : Nat} {v0 v1 v2 v3 v4 v5 : Value} (h : CdMem w b v0 v1 v2 v3 v4 v5) (hb : Below B w w') (hB : b < B) : CdMem w' b v0 v1 v2 v3 v4 v5 :=
  ⟨(hb.cell (p := ⟨b, 0, none⟩) hB).trans h.c0, (hb.cell (p := ⟨b, 1, none⟩) hB).trans h.c1, (hb.cell (p := ⟨b, 2, none⟩) hB).trans h.c2, (hb.cell (p := ⟨b, 3, none⟩) hB).trans h.c3, (hb.cell (p := ⟨b, 4, none⟩) hB).trans h.c4, (hb.cell (p := ⟨b, 5, none⟩) hB).trans h.c5, fun j => (hb.frozen (p := ⟨b, j, none⟩) hB).trans (h.fr j)⟩
theorem cdMem_new (w : World) (b : Nat) (t : TypeId) (hb : w.heap.size = b) (v0 v1 v2 v3 v4 v5 : Value) : CdMem (w.alloc (.cells #[v0, v1, v2, v3, v4, v5] t)) b v0 v1 v2 v3 v4 v5 := by
  subst hb
  constructor <;> first | simp | (intro j; simp)
theorem CdMem.set0 {w : World} {b : Nat} {v0 v1 v2 v3 v4 v5 : Value} (h : CdMem w b v0 v1 v2 v3 v4 v5) (u : Value) : CdMem (w.setCell ⟨b, 0, none⟩ u) b u v1 v2 v3 v4 v5 :=
  ⟨World.cell?_setCell_same w ⟨b, 0, none⟩ _ h.c0, (World.cell?_setCell_other w _ _ _ (by simp)).trans h.c1, (World.cell?_setCell_other w _ _ _ (by simp)).trans h.c2, (World.cell?_setCell_other w _ _ _ (by simp)).trans h.c3, (World.cell?_setCell_other w _ _ _ (by simp)).trans h.c4, (World.cell?_setCell_other w _ _ _ (by simp)).trans h.c5, fun j => (World.frozen?_setCell w _ _ u).trans (h.fr j)⟩
theorem CdMem.set1 {w : World} {b : Nat} {v0 v1 v2 v3 v4 v5 : Value} (h : CdMem w b v0 v1 v2 v3 v4 v5) (u : Value) : CdMem (w.setCell ⟨b, 1, none⟩ u) b v0 u v2 v3 v4 v5 :=
  ⟨(World.cell?_setCell_other w _ _ _ (by simp)).trans h.c0, World.cell?_setCell_same w ⟨b, 1, none⟩ _ h.c1, (World.cell?_setCell_other w _ _ _ (by simp)).trans h.c2, (World.cell?_setCell_other w _ _ _ (by simp)).trans h.c3, (World.cell?_setCell_other w _ _ _ (by simp)).trans h.c4, (World.cell?_setCell_other w _ _ _ (by simp)).trans h.c5, fun j => (World.frozen?_setCell w _ _ u).trans (h.fr j)⟩
theorem CdMem.set2 {w : World} {b : Nat} {v0 v1 v2 v3 v4 v5 : Value} (h : CdMem w b v0 v1 v2 v3 v4 v5) (u : Value) : CdMem (w.setCell ⟨b, 2, none⟩ u) b v0 v1 u v3 v4 v5 :=
  ⟨(World.cell?_setCell_other w _ _ _ (by simp)).trans h.c0, (World.cell?_setCell_other w _ _ _ (by simp)).trans h.c1, World.cell?_setCell_same w ⟨b, 2, none⟩ _ h.c2, (World.cell?_setCell_other w _ _ _ (by simp)).trans h.c3, (World.cell?_setCell_other w _ _ _ (by simp)).trans h.c4, (World.cell?_setCell_other w _ _ _ (by simp)).trans h.c5, fun j => (World.frozen?_setCell w _ _ u).trans (h.fr j)⟩
theorem CdMem.set3 {w : World} {b : Nat} {v0 v1 v2 v3 v4 v5 : Value} (h : CdMem w b v0 v1 v2 v3 v4 v5) (u : Value) : CdMem (w.setCell ⟨b, 3, none⟩ u) b v0 v1 v2 u v4 v5 :=
  ⟨(World.cell?_setCell_other w _ _ _ (by simp)).trans h.c0, (World.cell?_setCell_other w _ _ _ (by simp)).trans h.c1, (World.cell?_setCell_other w _ _ _ (by simp)).trans h.c2, World.cell?_setCell_same w ⟨b, 3, none⟩ _ h.c3, (World.cell?_setCell_other w _ _ _ (by simp)).trans h.c4, (World.cell?_setCell_other w _ _ _ (by simp)).trans h.c5, fun j => (World.frozen?_setCell w _ _ u).trans (h.fr j)⟩
theorem CdMem.set4 {w : World} {b : Nat} {v0 v1 v2 v3 v4 v5 : Value} (h : CdMem w b v0 v1 v2 v3 v4 v5) (u : Value) : CdMem (w.setCell ⟨b, 4, none⟩ u) b v0 v1 v2 v3 u v5 :=
  ⟨(World.cell?_setCell_other w _ _ _ (by simp)).trans h.c0, (World.cell?_setCell_other w _ _ _ (by simp)).trans h.c1, (World.cell?_setCell_other w _ _ _ (by simp)).trans h.c2, (World.cell?_setCell_other w _ _ _ (by simp)).trans h.c3, World.cell?_setCell_same w ⟨b, 4, none⟩ _ h.c4, (World.cell?_setCell_other w _ _ _ (by simp)).trans h.c5, fun j => (World.frozen?_setCell w _ _ u).trans (h.fr j)⟩
theorem CdMem.set5 {w : World} {b : Nat} {v0 v1 v2 v3 v4 v5 : Value} (h : CdMem w b v0 v1 v2 v3 v4 v5) (u : Value) : CdMem (w.setCell ⟨b, 5, none⟩ u) b v0 v1 v2 v3 v4 u :=
  ⟨(World.cell?_setCell_other w _ _ _ (by simp)).trans h.c0, (World.cell?_setCell_other w _ _ _ (by simp)).trans h.c1, (World.cell?_setCell_other w _ _ _ (by simp)).trans h.c2, (World.cell?_setCell_other w _ _ _ (by simp)).trans h.c3, (World.cell?_setCell_other w _ _ _ (by simp)).trans h.c4, World.cell?_setCell_same w ⟨b, 5, none⟩ _ h.c5, fun j => (World.frozen?_setCell w _ _ u).trans (h.fr j)⟩
theorem CdMem.other {w : World} {b : Nat} {v0 v1 v2 v3 v4 v5 : Value} (h : CdMem w b v0 v1 v2 v3 v4 v5) (p : Addr) (hp : p.block ≠ b) (u : Value) : CdMem (w.setCell p u) b v0 v1 v2 v3 v4 v5 := by
  have hn : ∀ j, p ≠ ⟨b, j, none⟩ := fun j e => hp (by rw [e])
  have hn' : ∀ j, (⟨b, j, none⟩ : Addr) ≠ p := fun j e => hp (by rw [← e])
  exact ⟨(World.cell?_setCell_other w _ _ _ (by first | exact hn _ | exact hn' _)).trans h.c0, (World.cell?_setCell_other w _ _ _ (by first | exact hn _ | exact hn' _)).trans h.c1, (World.cell?_setCell_other w _ _ _ (by first | exact hn _ | exact hn' _)).trans h.c2, (World.cell?_setCell_other w _ _ _ (by first | exact hn _ | exact hn' _)).trans h.c3, (World.cell?_setCell_other w _ _ _ (by first | exact hn _ | exact hn' _)).trans h.c4, (World.cell?_setCell_other w _ _ _ (by first | exact hn _ | exact hn' _)).trans h.c5, fun j => (World.frozen?_setCell w _ _ u).trans (h.fr j)⟩

set_option maxHeartbeats 1000000 in
theorem toCode_any (A L : Option Addr) (c d : Nat) (x : Cd) (w : World) (hr : CdAt w A L x) (hl : CdFits x) :
    Calls Tryd.prog 9 #[x.val A c L d] w fun e w' => (∃ g1 g2, e = .returned (x.val (some ⟨g1, 0, none⟩) x.els.length (some ⟨g2, 0, none⟩) x.lims.length) ∧ CdNew w' w.heap.size g1 g2 x) ∧ Below w.heap.size w w' := by
  have HL := Lib.hid hl
  have HR := Lib.hid hr
  clear hr hl
  unfold Cd.val
  go_enter Tryd.func9, Tryd.ntmps9
  go_wp2_with fail
  generalize hW : World.alloc (World.alloc (World.alloc w _) _) _ = W
  have hB : Below w.heap.size w W := by
    rw [← hW]
    go_grown
  have hS : W.heap.size = w.heap.size + 3 := by rw [← hW]; simp
  have hX : CdMem W w.heap.size (.slice A x.els.length c) (.slice L x.lims.length d) (.int .i64 x.rep) (.int .i64 x.bon) (.int .i64 x.kee) (.int .i64 x.fal) := by
    rw [← hW]
    exact ((cdMem_new w _ _ rfl _ _ _ _ _ _).below ((Below.refl _ _).alloc (Nat.le_refl _) _) (by simp)).below ((Below.refl _ _).alloc (Nat.le_refl _) _) (by simp; omega)
  have hM : CdMem W (w.heap.size + 1) (.slice none 0 0) (.slice none 0 0) (.int .i64 0) (.int .i64 0) (.int .i64 0) (.int .i64 0) := by
    rw [← hW]
    exact (cdMem_new _ _ _ (by simp) _ _ _ _ _ _).below ((Below.refl _ _).alloc (Nat.le_refl _) _) (by simp)
  have hN : CdMem W (w.heap.size + 1 + 1) (.slice none 0 0) (.slice none 0 0) (.int .i64 0) (.int .i64 0) (.int .i64 0) (.int .i64 0) := by
    rw [← hW]
    exact cdMem_new _ _ _ (by simp) _ _ _ _ _ _
  clear hW
  have h1 := toElementS_any A c x.els W ((HR.out.els.below hB (Nat.le_refl _)).up hB.size) HL.out.1.1
  rw [hS] at h1
  refine h1.mono ?_
  rintro e w4 ⟨rfl, ho4, hs4, hb4⟩
  have hM4 := hM.below hb4 (by omega)
  have hX4 := hX.below hb4 (by omega)
  have hN4 := hN.below hb4 (by omega)
  have HN5 := Lib.hid (hN4.set0 (.slice (some ⟨w.heap.size + 3, 0, none⟩) x.els.length x.els.length))
  have HM5 := Lib.hid (hM4.other ⟨w.heap.size + 1 + 1, 0, none⟩ (by simp) (.slice (some ⟨w.heap.size + 3, 0, none⟩) x.els.length x.els.length))
  have HX5 := Lib.hid (hX4.other ⟨w.heap.size + 1 + 1, 0, none⟩ (by simp; omega) (.slice (some ⟨w.heap.size + 3, 0, none⟩) x.els.length x.els.length))
  obtain ⟨n0, n1, n2, n3, n4, n5, nf⟩ := hN4
  have m1 := hX4.c1
  have HB5 := Lib.hid (show Below w.heap.size w (w4.setCell ⟨w.heap.size + 1 + 1, 0, none⟩ (.slice (some ⟨w.heap.size + 3, 0, none⟩) x.els.length x.els.length)) from (hB.trans (hb4.mono (by omega))).setCell (by simp; omega) _)
  have HO5 := Lib.hid (show OwnAt (w4.setCell ⟨w.heap.size + 1 + 1, 0, none⟩ (.slice (some ⟨w.heap.size + 3, 0, none⟩) x.els.length x.els.length)) (w.heap.size + 3) 0 x.els from ho4.block (Below.heap_setCell _ _ _ _ (by simp)))
  clear hM4 hX4 hM hX hN hb4 ho4 h1 hB
  go_wp2_with fail
  have hs5 : (w4.setCell ⟨w.heap.size + 1 + 1, 0, none⟩ (.slice (some ⟨w.heap.size + 3, 0, none⟩) x.els.length x.els.length)).heap.size = w4.heap.size := by simp [World.setCell]
  revert HN5 HM5 HX5 HB5 HO5
  generalize World.setCell w4 _ _ = w5 at hs5 ⊢
  intro HN5 HM5 HX5 HB5 HO5
  clear n0 n1 n2 n3 n4 n5 nf m1
  refine (toIntS_any L d x.lims w5 ((HR.out.lims.below HB5.out (Nat.le_refl _)).up HB5.out.size) HL.out.2).mono ?_
  rintro e w6 ⟨rfl, ho6, hs6, hb6⟩
  have HN6 := Lib.hid (HN5.out.below hb6 (by omega))
  have HM6 := Lib.hid (HM5.out.below hb6 (by omega))
  have HX6 := Lib.hid (HX5.out.below hb6 (by omega))
  have HO6 := Lib.hid ho6
  have HE6 := Lib.hid (HO5.out.block (hb6.block _ (by omega)))
  have HB6 := Lib.hid (HB5.out.trans (hb6.mono (by omega)))
  have q1 : Hid (w.heap.size < w.heap.size + 1) := Lib.hid (by omega)
  have q2 : Hid (w.heap.size + 1 < w.heap.size + 1 + 1) := Lib.hid (by omega)
  have q3 : Hid (w.heap.size + 1 + 1 < w6.heap.size ∧ w.heap.size + 1 + 1 < w.heap.size + 3 ∧ w.heap.size + 3 < w5.heap.size ∧ w5.heap.size < w6.heap.size) := Lib.hid (by omega)
  clear hb6 ho6 HN5 HM5 HX5 HB5 HO5 hs4 hS HR HL
  generalize w5.heap.size = g2 at HO6 q3 ⊢
  clear hs6 hs5 w4
  generalize w.heap.size + 3 = g1 at HN6 HE6 q3 ⊢
  generalize w.heap.size + 1 + 1 = b2 at HN6 q2 q3 ⊢
  generalize w.heap.size + 1 = b1 at HM6 q1 q2 ⊢
  generalize hq0 : w.heap.size = b0 at HX6 q1 ⊢
  have q0 := Lib.hid hq0
  clear hq0
  have e1 : (b0 = b2) = False := by have := q1.out; have := q2.out; simp; omega
  have e2 : (b1 = b2) = False := by have := q1.out; have := q2.out; simp; omega
  have e3 : (b2 = b1) = False := by have := q1.out; have := q2.out; simp; omega
  have e4 : (b2 = b0) = False := by have := q1.out; have := q2.out; simp; omega
  obtain ⟨n0, n1, n2, n3, n4, n5, nf⟩ := HN6.out
  obtain ⟨m0, m1, m2, m3, m4, m5, mf⟩ := HM6.out
  obtain ⟨x0, x1, x2, x3, x4, x5, xf⟩ := HX6.out
  clear x0 x1 xf
  simp only []
  iterate 78 (first | go_step | go_upon | go_simp)
  refine stop_at 8 ⟨?_⟩
  intro w7 hw7
  have hn7 : CdMem w7 b2 (.slice (some ⟨g1, 0, none⟩) x.els.length x.els.length) (.slice (some ⟨g2, 0, none⟩) x.lims.length x.lims.length) (.int .i64 x.rep) (.int .i64 x.bon) (.int .i64 x.kee) (.int .i64 x.fal) := by
    rw [hw7]
    exact ((((HN6.out.set1 _).set2 _).set3 _).set4 _).set5 _
  have hm7 : CdMem w7 b1 (.slice none 0 0) (.slice none 0 0) (.int .i64 0) (.int .i64 0) (.int .i64 0) (.int .i64 0) := by
    have hq : b2 ≠ b1 := by have := q2.out; omega
    rw [hw7]
    exact ((((HM6.out.other _ hq _).other _ hq _).other _ hq _).other _ hq _).other _ hq _
  clear n0 n1 n2 n3 n4 n5 nf m0 m1 m2 m3 m4 m5 mf x2 x3 x4 x5
  have HW7 : Hid (Only (fun i => i = b2) w6 w7) := by
    rw [hw7]
    exact Lib.hid ((((((Only.refl (fun i => i = b2) w6).put b2 1 rfl _).put b2 2 rfl _).put b2 3 rfl _).put b2 4 rfl _).put b2 5 rfl _)
  clear hw7
  obtain ⟨n0, n1, n2, n3, n4, n5, nf⟩ := hn7
  have HM7 := Lib.hid hm7
  obtain ⟨m0, m1, m2, m3, m4, m5, mf⟩ := hm7
  iterate 11 (first | go_step | go_upon | go_simp)
  refine stop_ret ⟨?_⟩
  intro w8 hw8
  have hm8 : CdMem w8 b1 (.slice (some ⟨g1, 0, none⟩) x.els.length x.els.length) (.slice (some ⟨g2, 0, none⟩) x.lims.length x.lims.length) (.int .i64 x.rep) (.int .i64 x.bon) (.int .i64 x.kee) (.int .i64 x.fal) := by
    rw [hw8]
    exact (((((HM7.out.set0 _).set1 _).set2 _).set3 _).set4 _).set5 _
  have HW8 : Hid (Only (fun i => i = b1) w7 w8) := by
    rw [hw8]
    exact Lib.hid (((((((Only.refl (fun i => i = b1) w7).put b1 0 rfl _).put b1 1 rfl _).put b1 2 rfl _).put b1 3 rfl _).put b1 4 rfl _).put b1 5 rfl _)
  clear n0 n1 n2 n3 n4 n5 nf m0 m1 m2 m3 m4 m5 mf hw8
  obtain ⟨m0, m1, m2, m3, m4, m5, mf⟩ := hm8
  go_wp2_with fail
  have hq := q0.out
  have h1 := q1.out
  have h2 := q2.out
  obtain ⟨h3, h4, h5, h6⟩ := q3.out
  have ht : Only (fun i => i = b1 ∨ i = b2) w6 w8 := (HW7.out.mono (fun i e => Or.inr e)).trans (HW8.out.mono (fun i e => Or.inl e))
  refine bodyPost_ret (v := .agg #[.slice (some ⟨g1, 0, none⟩) x.els.length x.els.length, .slice (some ⟨g2, 0, none⟩) x.lims.length x.lims.length, .int .i64 x.rep, .int .i64 x.bon, .int .i64 x.kee, .int .i64 x.fal]) (by simp [results, Tryd.results9, go_sem, m0, m1, m2, m3, m4, m5]) rfl ?_
  refine ⟨⟨g1, g2, rfl, HE6.out.block (ht.block _ (by omega) (by omega)), HO6.out.block (ht.block _ (by omega) (by omega)), by omega, by omega, ?_, ?_, by omega⟩, HB6.out.trans (ht.below HB6.out.size (fun k hk => by omega))⟩
  · exact Nat.lt_of_lt_of_le (by omega) ht.size
  · exact Nat.lt_of_lt_of_le h6 ht.size
end Go.Proofs.YtnlcdfaojcnkpaaDoor

namespace Go.Proofs.YtnlcdfaojcnkpaaDoor
open Go.ChangeShapes Go.WideShapes Go.ChangeAt Go.RowKit Go.PlainAid
set_option linter.unusedVariables false

/-- A proposition as a boolean. -/
noncomputable def pB (p : Prop) : Bool := @decide p (Classical.propDecidable p)
theorem pB_yes {p : Prop} (h : p) : pB p = true := by unfold pB; exact @decide_eq_true p (Classical.propDecidable p) h
theorem pB_no {p : Prop} (h : ¬ p) : pB p = false := by unfold pB; exact @decide_eq_false p (Classical.propDecidable p) h
theorem pB_iff {p q : Prop} (h : p ↔ q) : pB p = pB q := by
  by_cases k : q
  · rw [pB_yes k, pB_yes (h.2 k)]
  · rw [pB_no k, pB_no (fun j => k (h.1 j))]

def LetOk (v : Int) : Prop := 65 ≤ v ∧ v ≤ 90 ∨ 48 ≤ v ∧ v ≤ 57
structure NameOk (s : ByteArray) : Prop where
  lo : 1 ≤ s.size
  hi : s.size ≤ 5
  byte : ∀ i, i < s.size → LetOk (bt s i)
structure ElOk (x : El) : Prop where
  name : NameOk x.name
  fam : 0 ≤ x.fam ∧ x.fam ≤ 4
  lev : 0 ≤ x.lev ∧ x.lev ≤ 4
  base : 1 ≤ x.base ∧ x.base ≤ 2000
/-- The order of strings. -/
def nlt (a b : ByteArray) : Bool := Op.bytesLess a.toList b.toList
structure ElsOk (xs : List El) : Prop where
  lo : 1 ≤ xs.length
  hi : xs.length ≤ 24
  el : ∀ i, i < xs.length → ElOk (it xs i)
  ord : ∀ i, 0 < i → i < xs.length → nlt (it xs (i - 1)).name (it xs i).name = true
structure LimsOk (xs : List Int) : Prop where
  len : xs.length = 5
  lim : ∀ i, i < xs.length → 0 ≤ it xs i ∧ it xs i ≤ 9
structure CdOk (x : Cd) : Prop where
  els : ElsOk x.els
  lims : LimsOk x.lims
  rep : 1 ≤ x.rep ∧ x.rep ≤ 3
  bon : 0 ≤ x.bon ∧ x.bon ≤ 20
  kee : 50 ≤ x.kee ∧ x.kee ≤ 100
  fal : 0 ≤ x.fal ∧ x.fal ≤ 500
theorem El.fit {x : El} (h : ElOk x) : x.name.size ≤ 1048576 := by have := h.name.hi; omega
theorem Cd.fit {x : Cd} (h : CdOk x) : CdFits x := ⟨⟨by have := h.els.hi; omega, fun i hi => El.fit (h.els.el i hi)⟩, by have := h.lims.len; omega⟩
end Go.Proofs.YtnlcdfaojcnkpaaDoor

namespace Go.Proofs.YtnlcdfaojcnkpaaDoor
open Go.ChangeShapes Go.WideShapes Go.ChangeAt Go.RowKit Go.PlainAid
set_option linter.unusedVariables false

theorem letOk_cases (v : Int) : (v < 48 ∨ 57 < v ∧ v < 65 ∨ 90 < v) ∨ (48 ≤ v ∧ v ≤ 57) ∨ (65 ≤ v ∧ v ≤ 90) := by omega
theorem l1In_yes (n lo hi : Int) (w : World) (h1 : lo ≤ n) (h2 : n ≤ hi) :
    Calls Tryd.prog 63 #[.int .i64 n, .int .i64 lo, .int .i64 hi] w fun e w' => e = .returned (.bool true) ∧ w = w' := by
  go_enter Tryd.func63, Tryd.ntmps63
  go_wp2
  go_ret
  simp [*]
theorem l1In_no (n lo hi : Int) (w : World) (h : ¬ (lo ≤ n ∧ n ≤ hi)) :
    Calls Tryd.prog 63 #[.int .i64 n, .int .i64 lo, .int .i64 hi] w fun e w' => e = .returned (.bool false) ∧ w = w' := by
  by_cases h1 : lo ≤ n
  · have h2 : hi < n := by omega
    go_enter Tryd.func63, Tryd.ntmps63
    go_wp2
    go_ret
    simp
    omega
  · have h2 : n < lo := by omega
    go_enter Tryd.func63, Tryd.ntmps63
    go_wp2
    go_ret
    simp
theorem cdName_any (s : ByteArray) (w : World) (hs : s.size ≤ 1048576) :
    Calls Tryd.prog 94 #[.string s] w fun e w' => e = .returned (.bool (pB (NameOk s))) ∧ w = w' := by
  have hbt := get_bt s
  go_enter Tryd.func94, Tryd.ntmps94
  go_wp2
  go_loop [3] (fun i => ∃ k : Nat, k ≤ s.size ∧ i = .int .i64 k ∧ Hid (∀ j, j < k → LetOk (bt s j))) (fun i => s.size - (intOf i).toNat)
  case atStart => exact ⟨0, Nat.zero_le _, rfl, Lib.hid (fun j hj => absurd hj (by omega))⟩
  case round =>
    obtain ⟨k, hk, rfl, HI⟩ := hrel
    by_cases hlt : k < s.size
    · have q1 : (0 : Int) ≤ (k : Int) := by omega
      have q2 : (k : Int) < (s.size : Int) := by omega
      have HN : Hid (LetOk (bt s k) → ∀ j, j < k + 1 → LetOk (bt s j)) := Lib.hid (fun h j hj => by
        rcases Nat.lt_or_ge j k with h1 | h1
        · exact HI.out j h1
        · obtain rfl : j = k := by omega
          exact h)
      have HB : Hid (¬ LetOk (bt s k) → pB (NameOk s) = false) := Lib.hid (fun h => pB_no (fun h2 => h (h2.byte k hlt)))
      rcases letOk_cases (bt s k) with (h | ⟨h, h'⟩ | h) | ⟨h, h'⟩ | ⟨h, h'⟩
      · go_wp2
        go_ret
        exact ⟨by rw [HB.out (by unfold LetOk; omega)]; rfl, rfl⟩
      · go_wp2
        go_ret
        exact ⟨by rw [HB.out (by unfold LetOk; omega)]; rfl, rfl⟩
      · go_wp2
        go_ret
        exact ⟨by rw [HB.out (by unfold LetOk; omega)]; rfl, rfl⟩
      · go_wp2
        go_round
        case rel => exact ⟨k + 1, by omega, by go_num, Lib.hid (HN.out (by unfold LetOk; omega))⟩
        case measure => simp [intOf]; omega
      · go_wp2
        go_round
        case rel => exact ⟨k + 1, by omega, by go_num, Lib.hid (HN.out (by unfold LetOk; omega))⟩
        case measure => simp [intOf]; omega
    · obtain rfl : k = s.size := by omega
      by_cases h : 1 ≤ s.size ∧ s.size ≤ 5
      · obtain ⟨h1, h2⟩ := h
        have HV := Lib.hid (pB_yes (⟨h1, h2, HI.out⟩ : NameOk s))
        go_wp2_with (go_at_call 63; refine (l1In_yes _ _ _ _ (by omega) (by omega)).mono ?_; rintro e w' ⟨rfl, rfl⟩)
        go_ret
        exact ⟨by rw [HV.out]; rfl, rfl⟩
      · have HV := Lib.hid (pB_no (fun h' : NameOk s => h ⟨h'.lo, h'.hi⟩))
        go_wp2_with (go_at_call 63; refine (l1In_no _ _ _ _ (by omega)).mono ?_; rintro e w' ⟨rfl, rfl⟩)
        go_ret
        exact ⟨by rw [HV.out]; rfl, rfl⟩

theorem isNameByte_yes (v : Int) (w : World) (h : LetOk v) :
    Calls Tryd.prog 133 #[.int .u8 v] w fun e w' => e = .returned (.bool true) ∧ w = w' := by
  rcases h with ⟨h1, h2⟩ | ⟨h1, h2⟩ <;>
    (go_enter Tryd.func133, Tryd.ntmps133
     go_wp2
     go_ret
     exact ⟨by first | rfl | (simp; omega) | simp, rfl⟩)
theorem isNameByte_no (v : Int) (w : World) (h : ¬ LetOk v) :
    Calls Tryd.prog 133 #[.int .u8 v] w fun e w' => e = .returned (.bool false) ∧ w = w' := by
  unfold LetOk at h
  rcases letOk_cases v with (h1 | ⟨h1, h2⟩ | h1) | h1 | h1
  · go_enter Tryd.func133, Tryd.ntmps133
    go_wp2
    go_ret
    exact ⟨by first | rfl | (simp; omega) | simp, rfl⟩
  · go_enter Tryd.func133, Tryd.ntmps133
    go_wp2
    go_ret
    exact ⟨by first | rfl | (simp; omega) | simp, rfl⟩
  · go_enter Tryd.func133, Tryd.ntmps133
    go_wp2
    go_ret
    exact ⟨by first | rfl | (simp; omega) | simp, rfl⟩
  · omega
  · omega

theorem iName_any (s : ByteArray) (w : World) (hs : s.size ≤ 1048576) :
    Calls Tryd.prog 117 #[.string s] w fun e w' => e = .returned (.bool (pB (NameOk s))) ∧ w = w' := by
  by_cases h : 1 ≤ s.size ∧ s.size ≤ 5
  · obtain ⟨h1, h2⟩ := h
    have hbt := get_bt s
    go_enter Tryd.func117, Tryd.ntmps117
    go_wp2
    go_loop [14] (fun i => ∃ k : Nat, k ≤ s.size ∧ i = .int .i64 k ∧ Hid (∀ j, j < k → LetOk (bt s j))) (fun i => s.size - (intOf i).toNat)
    case atStart => exact ⟨0, Nat.zero_le _, rfl, Lib.hid (fun j hj => absurd hj (by omega))⟩
    case round =>
      obtain ⟨k, hk, rfl, HI⟩ := hrel
      by_cases hlt : k < s.size
      · have q1 : (0 : Int) ≤ (k : Int) := by omega
        have q2 : (k : Int) < (s.size : Int) := by omega
        by_cases h : LetOk (bt s k)
        · have HL := Lib.hid h
          clear h
          go_wp2_with (go_at_call 133; refine (isNameByte_yes _ _ HL.out).mono ?_; rintro e w' ⟨rfl, rfl⟩)
          go_round
          case rel => exact ⟨k + 1, by omega, by go_num, Lib.hid (fun j hj => by
            rcases Nat.lt_or_ge j k with h1 | h1
            · exact HI.out j h1
            · obtain rfl : j = k := by omega
              exact HL.out)⟩
          case measure => simp [intOf]; omega
        · have HV := Lib.hid (pB_no (fun h2 : NameOk s => h (h2.byte k hlt)))
          have HL := Lib.hid h
          clear h
          go_wp2_with (go_at_call 133; refine (isNameByte_no _ _ HL.out).mono ?_; rintro e w' ⟨rfl, rfl⟩)
          go_ret
          exact ⟨by rw [HV.out]; rfl, rfl⟩
      · obtain rfl : k = s.size := by omega
        have HV := Lib.hid (pB_yes (⟨h1, h2, HI.out⟩ : NameOk s))
        go_wp2
        go_ret
        exact ⟨by rw [HV.out]; rfl, rfl⟩
  · have HV := Lib.hid (pB_no (fun h' : NameOk s => h ⟨h'.lo, h'.hi⟩))
    by_cases h1 : 1 ≤ s.size
    · have h2 : 5 < s.size := by omega
      go_enter Tryd.func117, Tryd.ntmps117
      go_wp2
      go_ret
      exact ⟨by rw [HV.out]; rfl, rfl⟩
    · have h2 : s.size < 1 := by omega
      go_enter Tryd.func117, Tryd.ntmps117
      go_wp2
      go_ret
      exact ⟨by rw [HV.out]; rfl, rfl⟩
end Go.Proofs.YtnlcdfaojcnkpaaDoor

namespace Go.Proofs.YtnlcdfaojcnkpaaDoor
open Go.ChangeShapes Go.WideShapes Go.ChangeAt Go.RowKit
set_option linter.unusedVariables false

theorem below_drewM (B : Nat) (w : World) (n : Nat) : Below B w (w.drewN n) := by
  induction n with
  | zero => exact Below.refl _ _
  | succ n ih => exact ih.drew
theorem eqIntS_b (A A' : Option Addr) (c c' : Nat) (xs : List Int) (w : World) (hr : Lst w w.heap.size A xs) (hr' : Lst w w.heap.size A' xs) (hl : xs.length ≤ 1048576) :
    Calls Tryd.prog 20 #[.slice A xs.length c, .slice A' xs.length c'] w fun e w' => e = .returned (.bool true) ∧ Below w.heap.size w w' :=
  (eqIntS_yes A A' c c' xs w hr hr' hl).mono fun e w' ⟨he, n, hw⟩ => ⟨he, hw ▸ below_drewM _ _ _⟩

theorem Owned.lt {α : Type} [Flat α] {S : Nat → Prop} {w : World} {A : Option Addr} {xs : List α} (h : Owned S w A xs) : Owned (fun i => S i ∧ i < w.heap.size) w A xs := fun hp => by
  obtain ⟨g, o, rfl, hs, hg, hc⟩ := h hp
  exact ⟨g, o, rfl, ⟨hs, hg⟩, hg, hc⟩
/-- The slices of a code that lie in blocks of the call's own, one for each. -/
structure CdOwn (w : World) (g1 g2 : Nat) (A L : Option Addr) (x : Cd) : Prop where
  els : Owned (fun i => i = g1) w A x.els
  lims : Owned (fun i => i = g2) w L x.lims
theorem CdOwn.at_ {w : World} {g1 g2 : Nat} {A L : Option Addr} {x : Cd} (h : CdOwn w g1 g2 A L x) : CdAt w A L x := ⟨h.els.lst, h.lims.lst⟩
theorem CdOwn.keep {w w' : World} {g1 g2 : Nat} {A L : Option Addr} {x : Cd} (h : CdOwn w g1 g2 A L x) {T : Nat → Prop} (k : Only T w w') (h1 : ¬ T g1) (h2 : ¬ T g2) : CdOwn w' g1 g2 A L x :=
  ⟨h.els.keep k (fun i e => e ▸ h1), h.lims.keep k (fun i e => e ▸ h2)⟩
theorem CdOwn.keepB {w w' : World} {g1 g2 : Nat} {A L : Option Addr} {x : Cd} (h : CdOwn w g1 g2 A L x) (k : Below w.heap.size w w') : CdOwn w' g1 g2 A L x :=
  ⟨h.els.keepB k, h.lims.keepB k⟩
theorem CdNew.own {w : World} {B g1 g2 : Nat} {x : Cd} (h : CdNew w B g1 g2 x) : CdOwn w g1 g2 (some ⟨g1, 0, none⟩) (some ⟨g2, 0, none⟩) x :=
  ⟨fun _ => ⟨g1, 0, rfl, rfl, h.lt1, h.els⟩, fun _ => ⟨g2, 0, rfl, rfl, h.lt2, h.lims⟩⟩

theorem eqCode_yes (A L A' L' : Option Addr) (c d c' d' : Nat) (x : Cd) (w : World) (hr : CdAt w A L x) (hr' : CdAt w A' L' x) (hl : CdFits x) :
    Calls Tryd.prog 11 #[x.val A c L d, x.val A' c' L' d'] w fun e w' => e = .returned (.bool true) ∧ Below w.heap.size w w' := by
  have HR := Lib.hid hr
  have HR' := Lib.hid hr'
  have HL := Lib.hid hl
  clear hr hr' hl
  unfold Cd.val
  go_enter Tryd.func11, Tryd.ntmps11
  go_wp2_with fail
  generalize hW : World.alloc (World.alloc w _) _ = W
  have hB : Below w.heap.size w W := by
    rw [← hW]
    go_grown
  have hS : W.heap.size = w.heap.size + 2 := by rw [← hW]; simp
  have hX : CdBox W w.heap.size A c L d x := by
    rw [← hW]
    exact (cdBox_new w _ _ rfl A c L d x).below ((Below.refl _ _).alloc (Nat.le_refl _) _) (by simp)
  have hY : CdBox W (w.heap.size + 1) A' c' L' d' x := by
    rw [← hW]
    exact cdBox_new _ _ _ (by simp) A' c' L' d' x
  clear hW
  refine (eqElementS_yes A A' c c' x.els W (HR.out.below hB).els (HR'.out.below hB).els HL.out.1.1).mono ?_
  rintro e w2 ⟨rfl, hb2⟩
  have hb3 := hB.trans (hb2.mono hB.size)
  have hX2 := hX.below hb2 (by omega)
  have hY2 := hY.below hb2 (by omega)
  have x1 := hX2.c1
  have y1 := hY2.c1
  have HB3 := Lib.hid hb3
  have HX := Lib.hid hX2
  have HY := Lib.hid hY2
  have hS2 : w.heap.size + 2 ≤ w2.heap.size := by rw [← hS]; exact hb2.size
  clear hX hY hB hb2 hb3 hX2 hY2 hS
  go_wp2_with fail
  refine (eqIntS_b L L' d d' x.lims w2 (HR.out.below HB3.out).lims (HR'.out.below HB3.out).lims HL.out.2).mono ?_
  rintro e w3 ⟨rfl, hb4⟩
  have hb5 := Lib.hid (HB3.out.trans (hb4.mono HB3.out.size))
  obtain ⟨_, _, u2, u3, u4, u5⟩ := HX.out.below hb4 (by omega)
  obtain ⟨_, _, v2, v3, v4, v5⟩ := HY.out.below hb4 (by omega)
  clear x1 y1 hb4
  go_wp2
  go_ret
  exact ⟨rfl, hb5.out⟩

/-- A code of which every field that lies in a slice bears a mark. -/
def marksCd (x : Cd) (k : Nat) : Cd := { x with els := marksEl k x.els.length, lims := seqF ((k + x.els.length * 4 : Nat) : Int) x.lims.length }
theorem markCode_any (g1 g2 : Nat) (A L : Option Addr) (c d : Nat) (x : Cd) (w : World) (hr : CdOwn w g1 g2 A L x) (hne : g1 ≠ g2) (hl : CdFits x) :
    Calls Tryd.prog 14 #[x.val A c L d, .int .i64 1] w fun e w' => e = .returned (.int .i64 ((1 + x.els.length * 4 + x.lims.length : Nat) : Int)) ∧ CdOwn w' g1 g2 A L (marksCd x 1) ∧ Only (fun i => i = g1 ∨ i = g2) w w' := by
  have HR := Lib.hid hr
  have HL := Lib.hid hl
  clear hr hl
  unfold Cd.val
  go_enter Tryd.func14, Tryd.ntmps14
  go_wp2_with fail
  generalize hW : World.alloc w _ = W
  have hB : Below w.heap.size w W := by
    rw [← hW]
    go_grown
  have hS : W.heap.size = w.heap.size + 1 := by rw [← hW]; simp
  have hX : CdBox W w.heap.size A c L d x := by
    rw [← hW]
    exact cdBox_new w _ _ rfl A c L d x
  clear hW
  have hO1 : Owned (fun i => i = g1 ∧ i < w.heap.size) W A x.els := HR.out.els.lt.keepB hB
  have hO2 : Owned (fun i => i = g2 ∧ i < w.heap.size) W L x.lims := HR.out.lims.lt.keepB hB
  have hE : Only (fun i => i = g1 ∨ i = g2) w W := Only.of_below hB (Nat.le_refl _)
  clear hB
  refine (markElementS_any _ A c x.els 1 W hO1 HL.out.1.1 (by omega) (by omega)).mono ?_
  rintro e w2 ⟨rfl, ho2, hk2⟩
  have c1 : w2.cell? ⟨w.heap.size, 1, none⟩ = some (.slice L x.lims.length d) := (World.cell?_of_block (a := ⟨w.heap.size, 1, none⟩) (hk2.block w.heap.size (by omega) (by omega))).trans hX.c1
  have HO3 := Lib.hid (hO2.keep hk2 (fun i h k => hne (k.1.symm.trans h.1)))
  have HE2 := Lib.hid (hE.trans (hk2.mono (fun i h => .inl h.1)))
  have HO2 := Lib.hid ho2
  have hn : ((1 + x.els.length * 4 : Nat) : Int) ≤ 10000000000000000 := by have := HL.out.1.1; omega
  have hn0 : (0 : Int) ≤ ((1 + x.els.length * 4 : Nat) : Int) := by omega
  clear hX hO1 hO2 hE ho2 hk2 hS
  go_wp2_with fail
  refine (markIntS_any _ L d x.lims _ w2 HO3.out HL.out.2 hn0 hn).mono ?_
  rintro e w3 ⟨rfl, ho3, hk3⟩
  have HK3 := Lib.hid hk3
  have HO4 := Lib.hid ho3
  clear hk3 ho3 c1
  go_wp2
  go_ret
  refine ⟨by congr 2, ⟨?_, ?_⟩, HE2.out.trans (HK3.out.mono (fun i h => .inr h.1))⟩
  · exact (HO2.out.keep HK3.out (fun i h k => hne (h.1.symm.trans k.1))).mono (fun i h => h.1)
  · exact HO4.out.mono (fun i h => h.1)

theorem heldCode_any (A L : Option Addr) (c d n m : Nat) (x : Cd) (w : World) (hr : CdAt w A L x) (he : x.els = marksEl 1 n) (hs : x.lims = seqF ((1 + n * 4 : Nat) : Int) m) (hn : n ≤ 1048576) (hm : m ≤ 1048576) :
    Calls Tryd.prog 15 #[.agg #[.slice A n c, .slice L m d, .int .i64 x.rep, .int .i64 x.bon, .int .i64 x.kee, .int .i64 x.fal], .int .i64 1] w fun e w' => e = .returned (.int .i64 ((1 + n * 4 + m : Nat) : Int)) ∧ Below w.heap.size w w' := by
  have HA := Lib.hid (he ▸ hr.els)
  have HI := Lib.hid (hs ▸ hr.lims)
  clear hr he hs
  go_enter Tryd.func15, Tryd.ntmps15
  go_wp2_with fail
  generalize hW : World.alloc w _ = W
  have hB : Below w.heap.size w W := by
    rw [← hW]
    go_grown
  have hS : W.heap.size = w.heap.size + 1 := by rw [← hW]; simp
  have c1 : W.cell? ⟨w.heap.size, 1, none⟩ = some (.slice L m d) := by rw [← hW]; simp
  clear hW
  have h1 := heldElementS_any A c n 1 W ((HA.out.below hB (Nat.le_refl _)).up hB.size) hn (by omega) (by omega)
  refine h1.mono ?_
  rintro e w2 ⟨rfl, hb2⟩
  have d1 := (hb2.cell (p := ⟨w.heap.size, 1, none⟩) (by show w.heap.size < W.heap.size; omega)).trans c1
  have HB2 := Lib.hid (hB.trans (hb2.mono hB.size))
  have hk : ((1 + n * 4 : Nat) : Int) ≤ 10000000000000000 := by omega
  have hk0 : (0 : Int) ≤ ((1 + n * 4 : Nat) : Int) := by omega
  clear hB hb2 c1 h1
  go_wp2_with fail
  refine (heldIntS_any L d m _ w2 w.heap.size (HI.out.below HB2.out (Nat.le_refl _)) hm hk0 hk).mono ?_
  rintro e w3 ⟨rfl, rfl⟩
  go_wp2
  go_ret
  exact ⟨by congr 2, HB2.out⟩
end Go.Proofs.YtnlcdfaojcnkpaaDoor

namespace Go.Proofs.YtnlcdfaojcnkpaaDoor
open Go.ChangeShapes Go.WideShapes Go.ChangeAt Go.RowKit Go.Deep
set_option linter.unusedVariables false

section
variable {H : Type} {enc : TypeId × Value → H} {w : World}
theorem rdEl {cs : List Value} (h : Rd enc Tryd.prog w 96 cs) : ∃ x : El, cs = Flat.cells x ∧ x.name.size ≤ maxLen := by
  obtain ⟨hl, hf⟩ := rd_struct Tryd.underlying96 (by kernel_rfl) (by kernel_rfl) h
  obtain ⟨v0, e0, r0⟩ := hf 0 _ rfl
  obtain ⟨v1, e1, r1⟩ := hf 1 _ rfl
  obtain ⟨v2, e2, r2⟩ := hf 2 _ rfl
  obtain ⟨v3, e3, r3⟩ := hf 3 _ rfl
  obtain ⟨s, rfl, hs⟩ := rd_string Tryd.underlying9 r0
  obtain ⟨n1, rfl, _⟩ := rd_int Tryd.underlying3 r1
  obtain ⟨n2, rfl, _⟩ := rd_int Tryd.underlying3 r2
  obtain ⟨n3, rfl, _⟩ := rd_int Tryd.underlying3 r3
  refine ⟨⟨s, n1, n2, n3⟩, ?_, hs⟩
  match cs, hl, e0, e1, e2, e3 with
  | [a, b, c, d], _, e0, e1, e2, e3 =>
    obtain rfl := Option.some.inj e0
    obtain rfl := Option.some.inj e1
    obtain rfl := Option.some.inj e2
    obtain rfl := Option.some.inj e3
    rfl
theorem rdInt {cs : List Value} (h : Rd enc Tryd.prog w 3 cs) : ∃ x : Int, cs = Flat.cells x ∧ True := by
  have h0 := h
  obtain ⟨fuel, x, hf⟩ := h
  obtain ⟨n, hc, _, hw⟩ := DataW.trod_int Tryd.underlying3 hf
  refine ⟨n, ?_, trivial⟩
  show cs = [Value.int .i64 n]
  simpa using hc
theorem rdCode {cs : List Value} (h : Rd enc Tryd.prog w 25 cs) : ∃ A c L d, ∃ x : Cd, cs = [.slice A x.els.length c, .slice L x.lims.length d, .int .i64 x.rep, .int .i64 x.bon, .int .i64 x.kee, .int .i64 x.fal] ∧ CdAt w A L x ∧ CdLen x := by
  obtain ⟨hl, hf⟩ := rd_struct Tryd.underlying25 (by kernel_rfl) (by kernel_rfl) h
  obtain ⟨v0, e0, r0⟩ := hf 0 _ rfl
  obtain ⟨v1, e1, r1⟩ := hf 1 _ rfl
  obtain ⟨v2, e2, r2⟩ := hf 2 _ rfl
  obtain ⟨v3, e3, r3⟩ := hf 3 _ rfl
  obtain ⟨v4, e4, r4⟩ := hf 4 _ rfl
  obtain ⟨v5, e5, r5⟩ := hf 5 _ rfl
  obtain ⟨A, c, xs, rfl, hx1, hx2, hx3⟩ := rd_list (α := El) (fun x => x.name.size ≤ maxLen) Tryd.underlying22 (by kernel_rfl) (by decide) (fun cs h => rdEl h) r0
  obtain ⟨L, d, ys, rfl, hy1, hy2, hy3⟩ := rd_list (α := Int) (fun x => True) Tryd.underlying23 (by kernel_rfl) (by decide) (fun cs h => rdInt h) r1
  obtain ⟨n2, rfl, _⟩ := rd_int Tryd.underlying3 r2
  obtain ⟨n3, rfl, _⟩ := rd_int Tryd.underlying3 r3
  obtain ⟨n4, rfl, _⟩ := rd_int Tryd.underlying3 r4
  obtain ⟨n5, rfl, _⟩ := rd_int Tryd.underlying3 r5
  refine ⟨A, c, L, d, ⟨xs, ys, n2, n3, n4, n5⟩, ?_, ⟨hx2, hy2⟩, ⟨hx1, hx3, hy1⟩⟩
  match cs, hl, e0, e1, e2, e3, e4, e5 with
  | [a0, a1, a2, a3, a4, a5], _, e0, e1, e2, e3, e4, e5 =>
    obtain rfl := Option.some.inj e0
    obtain rfl := Option.some.inj e1
    obtain rfl := Option.some.inj e2
    obtain rfl := Option.some.inj e3
    obtain rfl := Option.some.inj e4
    obtain rfl := Option.some.inj e5
    rfl
theorem agg_of {P : Program} {base : Nat} {t : TypeId} {fs : Array Field} {v : Value} (ht : P.underlying t = some (.struct fs)) (h : Value.okWide P w .any base t v) : ∃ cs, v = .agg cs := by
  unfold Value.okWide at h
  simp only [ht] at h
  obtain ⟨cs, rfl, _⟩ := h
  exact ⟨cs, rfl⟩
set_option maxRecDepth 100000 in
theorem openElement {base : Nat} {v : Value} {d : DataW H} {p : List MemPlace} (hv : Value.okWide Tryd.prog w .any base 96 v) (h : DataW.Trod enc Tryd.prog w 0 (fun _ => true) true 96 v d p) :
    ∃ x : El, v = x.val ∧ x.name.size ≤ maxLen := by
  obtain ⟨cs, rfl⟩ := agg_of Tryd.underlying96 hv
  obtain ⟨x, hx, hs⟩ := rdEl (rd_of (r := .any) (b0 := 0) h)
  refine ⟨x, ?_, hs⟩
  have hc : cs = ⟨El.cs x⟩ := Array.ext' hx
  rw [hc]
  rfl
set_option maxRecDepth 100000 in
theorem openCode {base : Nat} {v : Value} {d : DataW H} {p : List MemPlace} (hv : Value.okWide Tryd.prog w .any base 25 v) (h : DataW.Trod enc Tryd.prog w 0 (fun _ => true) true 25 v d p) :
    ∃ A c L d, ∃ x : Cd, v = x.val A c L d ∧ CdAt w A L x ∧ CdLen x := by
  obtain ⟨cs, rfl⟩ := agg_of Tryd.underlying25 hv
  obtain ⟨A, c, L, d, x, hx, h1, h2⟩ := rdCode (rd_of (r := .any) (b0 := 0) h)
  refine ⟨A, c, L, d, x, ?_, h1, h2⟩
  have hc : cs = ⟨_⟩ := Array.ext' hx
  rw [hc]
end
end Go.Proofs.YtnlcdfaojcnkpaaDoor

namespace Go.Proofs.YtnlcdfaojcnkpaaDoor
open Go.ChangeShapes Go.WideShapes Go.ChangeAt Go.RowKit Go.Deep
set_option linter.unusedVariables false

instance : Flat (Int × Int) where
  default := (0, 0)
  sz := 2
  cells := fun x => [.int .i64 x.1, .int .i64 x.2]
  len := fun _ => rfl
def pairData {H : Type} (x : Int × Int) : DataW H := .agg [.lit (.int .i64 x.1), .lit (.int .i64 x.2)]
theorem pair_cells {H : Type} {enc : TypeId × Value → H} {P : Program} {w : World} {base : Nat} {sp : Nat → Bool} {held : Bool} {fuel : Nat} {e : TypeId} {fs : Array Field} {cs : List Value} {p : List MemPlace} {x : Int × Int}
    (he : P.underlying e = some (.struct fs)) (hone : oneCellFields P fs = true) (hfs : fs.size = 2) (hty : ∀ (j : Nat) (f : Field), fs[j]? = some f → P.underlying f.type = some (.int .i64)) (hC : P.cellsOf e = 2)
    (h : DataW.trod enc P w base sp held fuel e cs = some (pairData x, p)) : cs = Flat.cells x := by
  obtain ⟨ys, n, _, hx, hl, hyl, hg⟩ := DataW.trod_struct he h
  rw [hC] at hl
  match cs, hl with
  | [c0, c1], _ =>
    have hd : pairData x = .agg (ys.map (·.1)) := (Prod.mk.inj hx).1
    obtain ⟨y0, y1, rfl⟩ : ∃ y0 y1, ys = [y0, y1] := by
      match ys, hyl.trans hfs with
      | [a, b], _ => exact ⟨a, b, rfl⟩
    obtain ⟨f0, e0⟩ : ∃ f, fs[0]? = some f := ⟨fs[0], Array.getElem?_eq_getElem (by omega)⟩
    obtain ⟨f1, e1⟩ : ∃ f, fs[1]? = some f := ⟨fs[1], Array.getElem?_eq_getElem (by omega)⟩
    have h0 : _ = some y0 := hg 0 f0 e0
    have h1 : _ = some y1 := hg 1 f1 e1
    rw [(hone_of hone 0 f0 e0).1, (hone_of hone 0 f0 e0).2] at h0
    rw [(hone_of hone 1 f1 e1).1, (hone_of hone 1 f1 e1).2] at h1
    obtain ⟨n0, hc0, hx0, _⟩ := DataW.trod_int (hty 0 f0 e0) h0
    obtain ⟨n1, hc1, hx1, _⟩ := DataW.trod_int (hty 1 f1 e1) h1
    unfold pairData at hd
    simp at hd hc0 hc1 hx0 hx1
    obtain ⟨hd0, hd1⟩ := hd
    rw [hc0, hc1]
    rw [hx0] at hd0
    rw [hx1] at hd1
    injection hd0 with hd0
    injection hd1 with hd1
    injection hd0 with _ hd0
    injection hd1 with _ hd1
    show _ = [Value.int .i64 x.1, Value.int .i64 x.2]
    rw [hd0, hd1]
theorem pairs_cells {H : Type} {enc : TypeId × Value → H} {P : Program} {w : World} {base : Nat} {sp : Nat → Bool} {held : Bool} {fuel n : Nat} {t e : TypeId} {fs : Array Field} {cs : List Value} {p : List MemPlace} {rows : List (Int × Int)}
    (ht : P.underlying t = some (.array n e)) (he : P.underlying e = some (.struct fs)) (hone : oneCellFields P fs = true) (hfs : fs.size = 2) (hty : ∀ (j : Nat) (f : Field), fs[j]? = some f → P.underlying f.type = some (.int .i64)) (hC : P.cellsOf e = 2) (hCt : P.cellsOf t = n * 2)
    (h : DataW.trod enc P w base sp held fuel t cs = some (.agg (rows.map pairData), p)) : cs = rows.flatMap Flat.cells := by
  obtain ⟨xs, m, _, hx, hl, hxl, hi⟩ := DataW.trod_array ht h
  have hd : rows.map pairData = xs.map (·.1) := by
    have := (Prod.mk.inj hx).1
    injection this
  have hrl : rows.length = n := by
    have := congrArg List.length hd
    simp at this
    omega
  rw [hCt] at hl
  apply List.ext_getElem?
  intro q
  rcases Nat.lt_or_ge q (n * 2) with hq | hq
  · have hdm := Nat.div_add_mod q 2
    have hm2 := Nat.mod_lt q (show 0 < 2 by decide)
    have hqi : q / 2 < n := by omega
    have h1 := hi (q / 2) hqi
    have h2 : (rows.map (pairData (H := H)))[q / 2]? = (xs.map (·.1))[q / 2]? := by rw [hd]
    rw [List.getElem?_map, List.getElem?_map, it_get rows (q / 2) (by omega), ← h1, hC] at h2
    rcases hD : DataW.trod enc P w base sp held m e ((cs.drop (q / 2 * 2)).take 2) with _ | ⟨d, pp⟩
    · rw [hC, hD] at h1
      rw [List.getElem?_eq_getElem (by omega)] at h1
      cases h1
    · rw [hD] at h2
      simp at h2
      rw [← h2] at hD
      have hc := pair_cells he hone hfs hty hC hD
      have e1 : cs[q]? = ((cs.drop (q / 2 * 2)).take 2)[q % 2]? := by
        rw [List.getElem?_take, if_pos hm2, List.getElem?_drop]
        congr 1
        omega
      have e2 := flat_get rows (q / 2) (q % 2) (by omega) hm2
      rw [show q / 2 * Flat.sz (Int × Int) + q % 2 = q by show q / 2 * 2 + q % 2 = q; omega] at e2
      rw [e1, hc, e2]
  · rw [List.getElem?_eq_none (by omega), List.getElem?_eq_none (by rw [flat_len]; show rows.length * 2 ≤ q; omega)]

theorem gBound : Tryd.prog.globalNamed "loop.example/g00912/impl.codeBounds" = some 1 := by kernel_rfl
theorem gBoundType : (Tryd.prog.globals[1]?).map (·.type) = some 129 := by kernel_rfl
def boundRows : List (Int × Int) := [(0, 4), (0, 4), (1, 2000), (0, 9), (1, 3), (0, 20), (50, 100), (0, 500), (1, 200)]
def boundCells : List Value := boundRows.flatMap Flat.cells
/-- The table of bounds holds what it is laid with. -/
structure Tab (w : World) : Prop where
  lt : 1 < w.heap.size
  var : w.var? Tryd.prog "loop.example/g00912/impl.codeBounds" = some boundCells.toArray
theorem Tab.below {w w' : World} {B : Nat} (h : Tab w) (hb : Below B w w') (hB : w.heap.size ≤ B) : Tab w' := ⟨Nat.lt_of_lt_of_le h.lt hb.size, var?_below hb gBound (Nat.lt_of_lt_of_le h.lt hB) h.var⟩
theorem Tab.next {w w' : World} (h : Tab w) (hb : Below w.heap.size w w') : Tab w' := h.below hb (Nat.le_refl _)
theorem Tab.cell {w : World} (h : Tab w) (i : Nat) {v : Value} (hv : boundCells[i]? = some v) : w.cell? ⟨1, i, none⟩ = some v := by
  rw [World.var?_cell gBound h.var i, List.getElem?_toArray]
  exact hv
theorem var_lt {P : Program} {w : World} {n : String} {g : Nat} {cs : Array Value} (hg : P.globalNamed n = some g) (h : w.var? P n = some cs) : g < w.heap.size := by
  unfold World.var? at h
  simp only [hg, Option.bind_some] at h
  rcases Nat.lt_or_ge g w.heap.size with h1 | h1
  · exact h1
  · rw [Array.getElem?_eq_none h1] at h
    cases h
theorem tab_read {H : Type} {enc : TypeId × Value → H} {w : World} {sp : Nat → Bool} {held : Bool} {fuel : Nat} {cs : Array Value} {p : List MemPlace}
    (hv : w.var? Tryd.prog "loop.example/g00912/impl.codeBounds" = some cs) (hd : DataW.trod enc Tryd.prog w 0 sp held fuel 129 cs.toList = some (.agg (boundRows.map pairData), p)) : Tab w := by
  have := pairs_cells Tryd.underlying129 Tryd.underlying128 (by kernel_rfl) rfl (fun j f hj => by
    match j, hj with
    | 0, hj => rw [← Option.some.inj hj]; exact Tryd.underlying3
    | 1, hj => rw [← Option.some.inj hj]; exact Tryd.underlying3) (by kernel_rfl) (by kernel_rfl) hd
  refine ⟨var_lt gBound hv, ?_⟩
  rw [hv]
  congr 1
  apply Array.ext'
  rw [this]
  rfl
end Go.Proofs.YtnlcdfaojcnkpaaDoor
