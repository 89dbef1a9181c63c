/- Items compared, marked, held. -/
import Derived.Test.YtbhfhjhegcfdkaaItemT
namespace Go.Proofs.Ytbhfhjhegcfdkaa
open Go.ChangeShapes Go.WideShapes Go.ChangeAt Go.RowKit
set_option linter.unusedVariables false

theorem below_drewN (w : World) (n : Nat) : Below w.heap.size w (w.drewN n) := ⟨rfl, rfl, rfl, Nat.le_refl _, fun _ _ => rfl⟩
theorem below_drew (w : World) : Below w.heap.size w w.drew := (Below.refl _ _).drew
theorem eqStringS_b (A A' : Option Addr) (c c' : Nat) (xs : List ByteArray) (w : World) (hr : Lst w w.heap.size A xs) (hr' : Lst w w.heap.size A' xs) (hl : xs.length ≤ 1048576) :
    Calls Try.prog 52 #[.slice A xs.length c, .slice A' xs.length c'] w fun e w' => e = .returned (.bool true) ∧ Below w.heap.size w w' :=
  (eqStringS_yes A A' c c' xs w hr hr' hl).mono (by rintro e w' ⟨rfl, n, rfl⟩; exact ⟨rfl, below_drewN _ _⟩)
theorem eqIntS_b (A A' : Option Addr) (c c' : Nat) (xs : List Int) (w : World) (hr : Lst w w.heap.size A xs) (hr' : Lst w w.heap.size A' xs) (hl : xs.length ≤ 1048576) :
    Calls Try.prog 53 #[.slice A xs.length c, .slice A' xs.length c'] w fun e w' => e = .returned (.bool true) ∧ Below w.heap.size w w' :=
  (eqIntS_yes A A' c c' xs w hr hr' hl).mono (by rintro e w' ⟨rfl, n, rfl⟩; exact ⟨rfl, below_drewN _ _⟩)
/-- The same item, wherever it lies. -/
structure Same (x y : Im) : Prop where
  ns : y.ns = x.ns
  ms : y.ms = x.ms
  late : y.late = x.late
theorem Same.refl (x : Im) : Same x x := ⟨rfl, rfl, rfl⟩
theorem Same.symm {x y : Im} (h : Same x y) : Same y x := ⟨h.ns.symm, h.ms.symm, h.late.symm⟩
theorem Same.trans {x y z : Im} (h : Same x y) (k : Same y z) : Same x z := ⟨k.ns.trans h.ns, k.ms.trans h.ms, k.late.trans h.late⟩
theorem Same.fits {x y : Im} (h : Same x y) (k : ItFits x) : ItFits y := ⟨h.ns ▸ k.ns, h.ms ▸ k.ms⟩
theorem same_cpy (x : Im) (g1 g2 : Nat) : Same x (x.cpy g1 g2) := ⟨rfl, rfl, rfl⟩
/-- The same list, wherever it lies. -/
structure SameS (xs ys : List Im) : Prop where
  len : ys.length = xs.length
  each : ∀ i, i < xs.length → Same (it xs i) (it ys i)
theorem SameS.refl (xs : List Im) : SameS xs xs := ⟨rfl, fun _ _ => Same.refl _⟩
theorem SameS.symm {xs ys : List Im} (h : SameS xs ys) : SameS ys xs := ⟨h.len.symm, fun i hi => (h.each i (by have := h.len; omega)).symm⟩
theorem SameS.trans {xs ys zs : List Im} (h : SameS xs ys) (k : SameS ys zs) : SameS xs zs := ⟨k.len.trans h.len, fun i hi => (h.each i hi).trans (k.each i (by have := h.len; omega))⟩
theorem SameS.fits {xs ys : List Im} (h : SameS xs ys) (k : ImsFits xs) : ImsFits ys := ⟨by have := h.len; have := k.len; omega, fun i hi => (h.each i (by have := h.len; omega)).fits (k.each i (by have := h.len; omega))⟩

theorem eqItem_yes (x y : Im) (w : World) (hs : Same x y) (hx : ImIn w w.heap.size x) (hy : ImIn w w.heap.size y) (hl : ItFits x) :
    Calls Try.prog 25 #[x.val, y.val] w fun e w' => e = .returned (.bool true) ∧ Below w.heap.size w w' := by
  obtain ⟨A, c, L, d, ns, ms, lt⟩ := x
  obtain ⟨A', c', L', d', ns', ms', lt'⟩ := y
  obtain ⟨h1, h2, h3⟩ := hs
  simp only at h1 h2 h3
  subst h1 h2 h3
  have HR := Lib.hid hx
  have HR' := Lib.hid hy
  have HL := Lib.hid hl
  clear hx hy hl
  unfold Im.val
  go_enter Try.func25, Try.ntmps25
  go_wp2_with fail
  generalize hW : World.alloc (World.alloc w _) _ = W
  have hB : Below w.heap.size w W := by
    rw [← hW]
    go_grown
  have hS : W.heap.size = w.heap.size + 2 := by rw [← hW]; simp
  have hX : ImMem W w.heap.size (.slice A ns'.length c) (.slice L ms'.length d) (.bool lt') := by
    rw [← hW]
    exact (imMem_new w _ _ rfl _ _ _).below ((Below.refl _ _).alloc (Nat.le_refl _) _) (by simp)
  have hY : ImMem W (w.heap.size + 1) (.slice A' ns'.length c') (.slice L' ms'.length d') (.bool lt') := by
    rw [← hW]
    exact imMem_new _ _ _ (by simp) _ _ _
  clear hW
  refine (eqStringS_b A A' c c' ns' W (HR.out.next hB).ns (HR'.out.next hB).ns HL.out.ns.1).mono ?_
  rintro e w2 ⟨rfl, hb2⟩
  have HB2 := Lib.hid (below_next hB hb2)
  have hX2 := hX.below hb2 (by omega)
  have hY2 := hY.below hb2 (by omega)
  have x1 := hX2.c1
  have y1 := hY2.c1
  have HX := Lib.hid hX2
  have HY := Lib.hid hY2
  have hs2 := hb2.size
  clear hX hY hX2 hY2 hB hb2
  go_wp2_with (go_at_call 53; refine (eqIntS_b L L' d d' ms' _ (HR.out.next HB2.out).ms (HR'.out.next HB2.out).ms HL.out.ms).mono ?_; rintro e w3 ⟨rfl, hb3⟩; have x2 := (HX.out.below hb3 (by omega)).c2; have y2 := (HY.out.below hb3 (by omega)).c2; have HB3 := Lib.hid (below_next HB2.out hb3); clear hb3)
  go_ret
  exact ⟨rfl, HB3.out⟩

theorem eqItem_i (x y : Im) (vx vy : Value) (w : World) (ex : vx = x.val) (ey : vy = y.val) (hs : Same x y) (hx : ImIn w w.heap.size x) (hy : ImIn w w.heap.size y) (hl : ItFits x) :
    Calls Try.prog 25 #[vx, vy] w fun e w' => e = .returned (.bool true) ∧ Below w.heap.size w w' := by
  subst ex ey
  exact eqItem_yes x y w hs hx hy hl
theorem eqItemS_yes (P P' : Option Addr) (c c' : Nat) (xs ys : List Im) (w : World) (hs : SameS xs ys) (hr : Ims w w.heap.size P xs) (hr' : Ims w w.heap.size P' ys) (hl : ImsFits xs) :
    Calls Try.prog 8 #[.slice P xs.length c, .slice P' xs.length c'] w fun e w' => e = .returned (.bool true) ∧ Below w.heap.size w w' := by
  have HR := Lib.hid hr
  have HR' := Lib.hid hr'
  have HF := Lib.hid hl.each
  have hl' := hl.len
  have HS := Lib.hid hs.each
  have HY := Lib.hid hs.len
  clear hr hr' hl hs
  go_enter Try.func8, Try.ntmps8
  go_wp2
  go_loopw [5] (fun i wr => ∃ k : Nat, k ≤ xs.length ∧ i = .int .i64 k ∧ Below w.heap.size w wr) (fun i _ => xs.length - (intOf i).toNat)
  case atStart => exact ⟨0, Nat.zero_le _, rfl, Below.refl _ _⟩
  case round =>
    obtain ⟨k, hk, rfl, hb⟩ := hrel
    by_cases hlt : k < xs.length
    · obtain ⟨b, o, rfl, hbl, hc⟩ := HR.out.out.im (by omega)
      obtain ⟨b', o', rfl, hbl', hc'⟩ := HR'.out.out.im (by have := HY.out; omega)
      obtain ⟨c0, c1, c2⟩ := (hc k hlt).below hb hbl
      obtain ⟨d0, d1, d2⟩ := (hc' k (by have := HY.out; omega)).below hb hbl'
      have hi1 : (0 : Int) ≤ (k : Int) := by omega
      have hi2 : (k : Int) < (xs.length : Int) := by omega
      have HE := Lib.hid ((HR.out.each k hlt).next hb)
      have HE' := Lib.hid ((HR'.out.each k (by have := HY.out; omega)).next hb)
      have HK := Lib.hid (HS.out k hlt)
      have HL := Lib.hid (HF.out k hlt)
      have HB := Lib.hid hb
      clear hc hc' hb
      go_wp2
      go_region_with (go_at_call 25; (with_reducible refine (eqItem_yes (it xs k) (it ys k) _ HK.out (HE.out.next (below_drew _)) (HE'.out.next (below_drew _)) HL.out).mono ?_); rintro e w1 ⟨rfl, hb1⟩)
      all_goals
        have HB1 := Lib.hid (HB.out.trans ((Below.refl _ _).drew.trans (hb1.mono (by exact HB.out.size))))
        clear hb1
        go_simp
        go_wp2
        go_roundw
        case rel => exact ⟨k + 1, by omega, by go_num, HB1.out⟩
        case measure => simp [intOf]; omega
    · go_wp2
      go_ret
      exact ⟨rfl, hb⟩
end Go.Proofs.Ytbhfhjhegcfdkaa
