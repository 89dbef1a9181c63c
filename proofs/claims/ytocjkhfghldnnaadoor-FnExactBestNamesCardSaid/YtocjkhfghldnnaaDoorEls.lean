/- Elements: a string and three ints; slices of them, as the laws' helpers read and copy them. -/
import Derived.Test.YtocjkhfghldnnaaDoorFlat
namespace Go.Proofs.YtocjkhfghldnnaaDoor
open Go.ChangeShapes Go.WideShapes Go.ChangeAt Go.RowKit
set_option linter.unusedVariables false

structure El where
  name : ByteArray
  fam : Int
  lev : Int
  base : Int
def El.cs (x : El) : List Value := [.string x.name, .int .i64 x.fam, .int .i64 x.lev, .int .i64 x.base]
instance : Flat El where
  default := ⟨⟨#[]⟩, 0, 0, 0⟩
  sz := 4
  cells := El.cs
  len := fun _ => rfl
@[reducible] def El.val (x : El) : Value := .agg #[.string x.name, .int .i64 x.fam, .int .i64 x.lev, .int .i64 x.base]
/-- The four cells of an element. -/
structure ElAt (w : World) (b o : Nat) (x : El) : Prop where
  c0 : w.cell? ⟨b, o, none⟩ = some (.string x.name)
  c1 : w.cell? ⟨b, o + 1, none⟩ = some (.int .i64 x.fam)
  c2 : w.cell? ⟨b, o + 2, none⟩ = some (.int .i64 x.lev)
  c3 : w.cell? ⟨b, o + 3, none⟩ = some (.int .i64 x.base)
theorem elAt {w : World} {b o : Nat} {x : El} (h : CellsAt w b o (Flat.cells x)) : ElAt w b o x :=
  ⟨h 0 _ rfl, h 1 _ rfl, h 2 _ rfl, h 3 _ rfl⟩

theorem Lst.el {w : World} {B : Nat} {A : Option Addr} {xs : List El} (h : Lst w B A xs) (hp : 0 < xs.length) : ∃ b o, A = some ⟨b, o, none⟩ ∧ b < B ∧ ∀ i, i < xs.length → ElAt w b (o + i * 4) (it xs i) := by
  obtain ⟨b, o, h1, h2, h3⟩ := h hp
  exact ⟨b, o, h1, h2, fun i hi => elAt (h3 i hi)⟩
theorem ElAt.below {w w' : World} {B b o : Nat} {x : El} (h : ElAt w b o x) (hb : Below B w w') (hB : b < B) : ElAt w' b o x :=
  ⟨(hb.cell (p := ⟨b, o, none⟩) hB).trans h.c0, (hb.cell (p := ⟨b, o + 1, none⟩) hB).trans h.c1, (hb.cell (p := ⟨b, o + 2, none⟩) hB).trans h.c2, (hb.cell (p := ⟨b, o + 3, none⟩) hB).trans h.c3⟩

/-- The four cells of an element that may be written. -/
structure ElOwn (w : World) (b o : Nat) (x : El) : Prop extends ElAt w b o x where
  f0 : w.frozen? ⟨b, o, none⟩ = false
  f1 : w.frozen? ⟨b, o + 1, none⟩ = false
  f2 : w.frozen? ⟨b, o + 2, none⟩ = false
  f3 : w.frozen? ⟨b, o + 3, none⟩ = false
theorem OwnAt.el0 {w : World} {g : Nat} {xs : List El} (h : OwnAt w g 0 xs) (i : Nat) (hi : i < xs.length) : ElOwn w g (i * 4) (it xs i) := by
  have h1 := h.cell i hi
  have h2 := fun j => h.free i j hi
  rw [Nat.zero_add] at h1 h2
  exact ⟨elAt h1, h2 0 (by decide), h2 1 (by decide), h2 2 (by decide), h2 3 (by decide)⟩
theorem OwnAt.el {w : World} {g o : Nat} {xs : List El} (h : OwnAt w g o xs) (i : Nat) (hi : i < xs.length) : ElOwn w g (o + i * 4) (it xs i) := by
  have h1 := h.cell i hi
  have h2 := fun j => h.free i j hi
  exact ⟨elAt h1, h2 0 (by decide), h2 1 (by decide), h2 2 (by decide), h2 3 (by decide)⟩

theorem szElement_any (x : El) (left : Int) (w : World) (h0 : 0 ≤ left) (h1 : left ≤ 1048576) (hx : x.name.size ≤ 9223372036854775807) :
    Calls Tryd.prog 45 #[x.val, .int .i64 left] w fun e w' => (∃ q : Int, e = .returned (.int .i64 q) ∧ (q < 0 ∨ 0 ≤ q ∧ q ≤ left ∧ x.name.size ≤ 1048576)) ∧ Below w.heap.size w w' := by
  unfold El.val
  go_enter Tryd.func45, Tryd.ntmps45
  by_cases h : left - (x.name.size : Int) < 0
  · go_wp2
    go_ret
    exact ⟨⟨_, rfl, by omega⟩, (Below.refl _ _).alloc (Nat.le_refl _) _⟩
  · go_wp2
    go_ret
    exact ⟨⟨_, rfl, by omega⟩, (Below.refl _ _).alloc (Nat.le_refl _) _⟩
def Fits (xs : List El) : Prop := xs.length ≤ 1048576 ∧ ∀ i, i < xs.length → (it xs i).name.size ≤ 1048576
theorem szElementS_any (A : Option Addr) (c : Nat) (xs : List El) (left : Int) (w : World) (hr : Lst w w.heap.size A xs) (hl : xs.length ≤ 9223372036854775807) (hn : ∀ i, i < xs.length → (it xs i).name.size ≤ 9223372036854775807) (h0 : 0 ≤ left) (h1 : left ≤ 1048576)  :
    Calls Tryd.prog 22 #[.slice A xs.length c, .int .i64 left] w fun e w' => (∃ q : Int, e = .returned (.int .i64 q) ∧ (q < 0 ∨ 0 ≤ q ∧ q ≤ left ∧ Hid (Fits xs))) ∧ Below w.heap.size w w' := by
  have HR := Lib.hid hr
  have HN := Lib.hid hn
  clear hr hn
  go_enter Tryd.func22, Tryd.ntmps22
  by_cases h : left - (xs.length : Int) < 0
  · go_wp2
    go_ret
    exact ⟨⟨_, rfl, by omega⟩, Below.refl _ _⟩
  · go_wp2
    go_loopw [1, 5] (fun q i wr => ∃ (k : Nat) (p : Int), k ≤ xs.length ∧ i = .int .i64 k ∧ q = .int .i64 p ∧ 0 ≤ p ∧ p ≤ left ∧ Hid (∀ i, i < k → (it xs i).name.size ≤ 1048576) ∧ Below w.heap.size w wr) (fun _ i _ => xs.length - (intOf i).toNat)
    case atStart => exact ⟨0, left - (xs.length : Int), by omega, rfl, rfl, by omega, by omega, Lib.hid (fun i hi => absurd hi (by omega)), Below.refl _ _⟩
    case round =>
      obtain ⟨k, p, hk, rfl, rfl, hp0, hp1, HA, hb⟩ := hrel
      by_cases hlt : k < xs.length
      · obtain ⟨b, o, rfl, hbl, hc⟩ := HR.out.el (by omega)
        obtain ⟨c0, c1, c2, c3⟩ := (hc k hlt).below hb hbl
        have hs := HN.out k hlt
        have HB := Lib.hid hb
        clear hc hb
        go_wp2_with (go_at_call 45; refine (szElement_any (it xs k) _ _ hp0 (by omega) hs).mono ?_; rintro e w2 ⟨⟨q, rfl, hq⟩, hb2⟩; have HQ := Lib.hid hq; have HB2 := Lib.hid (HB.out.trans (hb2.mono HB.out.size)); clear hb2 hq)
        · go_ret
          exact ⟨⟨_, rfl, by omega⟩, HB2.out⟩
        · obtain ⟨hq0, hq1, hq2⟩ : 0 ≤ q ∧ q ≤ p ∧ (it xs k).name.size ≤ 1048576 := by have := HQ.out; omega
          go_roundw
          case rel => exact ⟨k + 1, q, by omega, by go_num, rfl, hq0, by omega, Lib.hid (fun i hi => by
            rcases Nat.lt_or_ge i k with h | h
            · exact HA.out i h
            · obtain rfl : i = k := by omega
              exact hq2), HB2.out⟩
          case measure => simp [intOf]; omega
      · obtain rfl : k = xs.length := by omega
        go_wp2
        go_ret
        exact ⟨⟨_, rfl, .inr ⟨hp0, hp1, Lib.hid ⟨by omega, HA.out⟩⟩⟩, hb⟩

theorem toElement_any (x : El) (w : World) :
    Calls Tryd.prog 51 #[x.val] w fun e w' => e = .returned x.val ∧ Below w.heap.size w w' := by
  unfold El.val
  go_enter Tryd.func51, Tryd.ntmps51
  go_wp2
  go_returns
  refine ⟨rfl, ?_⟩
  go_grown

theorem Tryd.infoEl : (Tryd.prog.info? 50).map (fun i => (i.zero, i.size, i.bytes)) = some (some (.agg #[.string ⟨#[]⟩, .int .i64 0, .int .i64 0, .int .i64 0]), 4, 40) := by kernel_rfl
theorem toElementS_any (A : Option Addr) (c : Nat) (xs : List El) (w : World) (hr : Lst w w.heap.size A xs) (hl : xs.length ≤ 1048576) :
    Calls Tryd.prog 26 #[.slice A xs.length c] w fun e w' => e = .returned (.slice (some ⟨w.heap.size, 0, none⟩) xs.length xs.length) ∧ OwnAt w' w.heap.size 0 xs ∧ w.heap.size < w'.heap.size ∧ Below w.heap.size w w' := by
  have HR := Lib.hid hr
  clear hr
  obtain ⟨i0, hi, hz0, hz1, hz2⟩ := info_parts Tryd.infoEl
  have HZ := Lib.hid (made_flat (α := El) #[.string ⟨#[]⟩, .int .i64 0, .int .i64 0, .int .i64 0] default xs.length rfl (by decide))
  go_enter Tryd.func26, Tryd.ntmps26
  go_wp2_with (at_make; refine wpList_make_full _ rfl (.tmp 6) (.tmp 6) 29 rfl w.heap.size 50 i0 (.agg #[.string ⟨#[]⟩, .int .i64 0, .int .i64 0, .int .i64 0]) 4 Tryd.underlying29 hi hz0 hz1 .i64 .i64 _ _ xs.length rfl rfl rfl rfl (by rw [hz2]; omega) (by unfold maxLen; omega) (Nat.le_refl _) ?_; intro w1 hown hgrow)
  have HW := Lib.hid (show OwnAt w1 w.heap.size 0 (List.replicate xs.length (default : El)) from own_of_row (α := El) (cap := xs.length) (e := 50) (base := w.heap.size) _ (by rw [← HZ.out, List.length_replicate]; exact hown))
  have hb1 : Below w.heap.size w w1 := (Below.refl _ _).grown hgrow (Nat.le_refl _) (fun k e => by cases e)
  have hs1 := (hown.lt w.heap.size rfl).2
  have HB1 := Lib.hid hb1
  clear hown hgrow hb1
  go_loopw [4] (fun i wr => ∃ (k : Nat) (ys : List El), k ≤ xs.length ∧ i = .int .i64 k ∧ ys.length = xs.length ∧ Hid (∀ i, i < k → it ys i = it xs i) ∧ Hid (OwnAt wr w.heap.size 0 ys) ∧ w.heap.size < wr.heap.size ∧ Below w.heap.size w wr) (fun i _ => xs.length - (intOf i).toNat)
  case atStart => exact ⟨0, _, Nat.zero_le _, rfl, by rw [List.length_replicate], Lib.hid (fun i hi => absurd hi (by omega)), HW, hs1, HB1.out⟩
  case round =>
    obtain ⟨k, ys, hk, rfl, hy, HI, HO, hs, hb⟩ := hrel
    by_cases hlt : k < xs.length
    · obtain ⟨b, o, rfl, hbl, hc⟩ := HR.out.el (by omega)
      obtain ⟨c0, c1, c2, c3⟩ := (hc k hlt).below hb hbl
      have HB := Lib.hid hb
      clear hc hb
      go_wp2_with (go_at_call 51; refine (toElement_any (it xs k) _).mono ?_; rintro e w2 ⟨rfl, hb2⟩; unfold El.val; have HO2 := Lib.hid (HO.out.block (hb2.block _ hs)); have HB2 := Lib.hid (HB.out.trans (hb2.mono HB.out.size)); have hs2 := Nat.lt_of_lt_of_le hs hb2.size; obtain ⟨⟨d0, d1, d2, d3⟩, f0, f1, f2, f3⟩ := HO2.out.el0 k (by omega); clear hb2)
      have HP := Lib.hid (HO2.out.put k (it xs k) (by omega))
      have HN := Lib.hid (putAt_only (S := fun i => i = w.heap.size) rfl (0 + k * 4) (Flat.cells (it xs k)) w2 w2 0 (Only.refl _ _))
      rw [Nat.zero_add] at HP HN
      go_roundw
      case rel => exact ⟨k + 1, _, by omega, by go_num, by rw [List.length_set]; exact hy, Lib.hid (fun i hi => by
        rw [it_set _ _ _ _ (by omega)]
        by_cases e : i = k
        · rw [if_pos e, e]
        · rw [if_neg e]; exact HI.out i (by omega)), HP, by simpa [World.setCell] using hs2, HB2.out.trans (HN.out.below (by omega) (fun k e => Nat.le_of_eq e.symm))⟩
      case measure => simp [intOf]; omega
    · obtain rfl : k = xs.length := by omega
      obtain rfl : ys = xs := it_ext _ _ hy (fun i hi => HI.out i (by omega))
      go_wp2
      go_ret
      exact ⟨rfl, HO.out, hs, hb⟩
end Go.Proofs.YtocjkhfghldnnaaDoor
