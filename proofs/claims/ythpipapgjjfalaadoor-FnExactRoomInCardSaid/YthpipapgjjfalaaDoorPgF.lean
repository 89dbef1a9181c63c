/- The family of a name and of an item, in the model and in the program. -/
import Derived.Test.YthpipapgjjfalaaDoorCdF
import Derived.Test.YthpipapgjjfalaaDoorItemW
import Derived.Deep.RegionHeld3
namespace Go.Proofs.YthpipapgjjfalaaDoor
open Go.ChangeShapes Go.WideShapes Go.ChangeAt Go.RowKit
set_option linter.unusedVariables false

/-- The index of a name, or -1. -/
noncomputable def fndI (xs : List El) (n : ByteArray) : Int := Classical.choose (First.have xs n)
theorem fndI_first (xs : List El) (n : ByteArray) : First xs n (fndI xs n) := Classical.choose_spec (First.have xs n)
/-- The family of a name, or -1. -/
noncomputable def famI (x : Cd) (n : ByteArray) : Int := if 0 ≤ fndI x.els n then (it x.els (fndI x.els n).toNat).fam else -1
theorem famI_no {x : Cd} {n : ByteArray} (h : ¬ 0 ≤ fndI x.els n) : famI x n = -1 := if_neg h
theorem famI_hit {x : Cd} {n : ByteArray} {k : Nat} (h : fndI x.els n = k) : famI x n = (it x.els k).fam := by
  unfold famI
  rw [if_pos (by omega), h]
  rfl
/-- An element with the name, or none. -/
theorem fndI_cases (xs : List El) (n : ByteArray) : (fndI xs n = -1) ∨ ∃ k : Nat, fndI xs n = k ∧ k < xs.length ∧ (it xs k).name = n := by
  rcases fndI_first xs n with ⟨h, _⟩ | ⟨i, h1, h2, h3, _⟩
  · exact .inl h
  · exact .inr ⟨i, h1, h2, h3⟩

/-- An item's box. -/
def boxIm (t : TypeId) (w : World) (y : Im) : World := w.alloc (.cells #[.slice y.A y.ns.length y.c, .slice y.L y.ms.length y.d, .bool y.late] t)
structure BoxedI (w W : World) (y : Im) : Prop where
  below : Below w.heap.size w W
  size : W.heap.size = w.heap.size + 1
  box : ImBox W w.heap.size y
theorem boxedI (t : TypeId) (w : World) (y : Im) : ∃ W, W = boxIm t w y ∧ BoxedI w W y :=
  ⟨_, rfl, below_alloc _ _, by simp [boxIm], imBox_new w t y⟩

theorem str1 {w : World} {B : Nat} {A : Option Addr} {xs : List ByteArray} (h : Lst w B A xs) (hp : 0 < xs.length) : ∃ b o, A = some ⟨b, o, none⟩ ∧ b < B ∧ w.cell? ⟨b, o, none⟩ = some (.string (it xs 0)) := by
  obtain ⟨b, o, h1, h2, h3⟩ := h.str hp
  exact ⟨b, o, h1, h2, h3 0 hp⟩
theorem el1 {w : World} {B : Nat} {A : Option Addr} {xs : List El} (h : Lst w B A xs) (k : Nat) (hk : k < xs.length) : ∃ b o, A = some ⟨b, o, none⟩ ∧ b < B ∧ ElAt w b (o + k * 4) (it xs k) := by
  obtain ⟨b, o, h1, h2, h3⟩ := h.el (by omega)
  exact ⟨b, o, h1, h2, h3 k hk⟩

/-- A code's box, an item's slice of names and its first name are still read. -/
theorem held_cn {W w' : World} {B B' b o n c1 : Nat} {A L : Option Addr} {c d : Nat} {x : Cd} {s : ByteArray} (hX : BoxAt W B A c L d x) (hY : W.cell? ⟨B', 0, none⟩ = some (.slice (some ⟨b, o, none⟩) n c1)) (hS : W.cell? ⟨b, o, none⟩ = some (.string s)) (h1 : B' < W.heap.size) (h2 : b < W.heap.size) (hb : Below W.heap.size W w') :
    w'.cell? ⟨B, 0, none⟩ = some (.slice A x.els.length c) ∧ w'.cell? ⟨B, 1, none⟩ = some (.slice L x.lims.length d) ∧ w'.cell? ⟨B, 2, none⟩ = some (.int .i64 x.rep) ∧ w'.cell? ⟨B, 3, none⟩ = some (.int .i64 x.bon) ∧ w'.cell? ⟨B, 4, none⟩ = some (.int .i64 x.kee) ∧ w'.cell? ⟨B, 5, none⟩ = some (.int .i64 x.fal) ∧ w'.cell? ⟨B', 0, none⟩ = some (.slice (some ⟨b, o, none⟩) n c1) ∧ w'.cell? ⟨b, o, none⟩ = some (.string s) := by
  obtain ⟨e0, e1, e2, e3, e4, e5⟩ := (hX.next hb).box
  exact ⟨e0, e1, e2, e3, e4, e5, (hb.cell (p := ⟨B', 0, none⟩) h1).trans hY, (hb.cell (p := ⟨b, o, none⟩) h2).trans hS⟩
set_option maxHeartbeats 1000000 in
theorem pgFamily_any (A L : Option Addr) (c d : Nat) (x : Cd) (y : Im) (w : World) (hr : CdAt w A L x) (hl : CdFits x) (hy : ImIn w w.heap.size y) (hp : 0 < y.ns.length) :
    Calls Tryd.prog 43 #[x.val A c L d, y.val] w fun e w' => e = .returned (.int .i64 (famI x (it y.ns 0))) ∧ Below w.heap.size w w' := by
  obtain ⟨Y1, c1, Y2, c2, ns, ms, lt⟩ := y
  obtain ⟨b, o, rfl, hbl, hn⟩ := str1 hy.ns hp
  obtain ⟨V, hV, hB⟩ := boxed 33 w A c L d x
  obtain ⟨W, hW, hI⟩ := boxedI 46 V ⟨some ⟨b, o, none⟩, c1, Y2, c2, ns, ms, lt⟩
  have hbW := hI.below
  have hsV := hB.size
  have HB := Lib.hid (Below_next hB.below hbW)
  have HX := Lib.hid (hB.at_.next hbW)
  have HR := Lib.hid ((hr.below hB.below).below hbW)
  have HY := Lib.hid (show W.cell? ⟨V.heap.size, 0, none⟩ = some (.slice (some ⟨b, o, none⟩) ns.length c1) from hI.box.c0)
  have HS := Lib.hid (((Below_next hB.below hbW).cell (p := ⟨b, o, none⟩) hbl).trans hn)
  have HL := Lib.hid hl
  have HF := Lib.hid (fndI_first x.els (it ns 0))
  have HC := Lib.hid (fndI_cases x.els (it ns 0))
  have hp' : 0 < ns.length := hp
  have hsW : w.heap.size + 1 < W.heap.size := by have := hI.size; omega
  have hbW2 : b < W.heap.size := by have := hI.size; omega
  clear hr hl hB hI hy hn hbW hp hbl
  unfold boxCd at hV
  unfold boxIm at hW
  unfold Cd.val Im.val
  rw [hsV] at HY
  clear hsV
  go_enter Tryd.func43, Tryd.ntmps43
  go_wp2_with fail
  rw [← hV, ← hW]
  clear hV hW
  have HH := Lib.hid (fun (w' : World) (hb : Below W.heap.size W w') => held_cn HX.out HY.out HS.out hsW hbW2 hb)
  have HD := Lib.hid (below_drew W)
  go_region_held3 (fun w' => w'.cell? ⟨w.heap.size, 0, none⟩ = some (.slice A x.els.length c) ∧ w'.cell? ⟨w.heap.size, 1, none⟩ = some (.slice L x.lims.length d) ∧ w'.cell? ⟨w.heap.size, 2, none⟩ = some (.int .i64 x.rep) ∧ w'.cell? ⟨w.heap.size, 3, none⟩ = some (.int .i64 x.bon) ∧ w'.cell? ⟨w.heap.size, 4, none⟩ = some (.int .i64 x.kee) ∧ w'.cell? ⟨w.heap.size, 5, none⟩ = some (.int .i64 x.fal) ∧ w'.cell? ⟨w.heap.size + 1, 0, none⟩ = some (.slice (some ⟨b, o, none⟩) ns.length c1) ∧ w'.cell? ⟨b, o, none⟩ = some (.string (it ns 0)))
    (first | exact HH.out _ HD.out | exact HH.out _ HE.out)
    (first
      | (go_at_call 74; refine (cdFind_any A L c d x (it ns 0) _ _ (HR.out.below HD.out) HL.out HF.out).mono ?_; rintro e w2 ⟨rfl, hb⟩; have HE := Lib.hid (Below_next HD.out hb); clear hb)
      )
  clear HD
  rcases HC.out with h | ⟨k, h1, h2, h3⟩
  · rw [h]
    have HV := Lib.hid (famI_no (x := x) (n := it ns 0) (by omega))
    clear h
    go_wp2
    go_ret
    exact ⟨by rw [HV.out]; rfl, Below_next HB.out HE.out⟩
  · have HV := Lib.hid (famI_hit (x := x) (n := it ns 0) h1)
    rw [h1]
    obtain ⟨e, o', rfl, hel, hc⟩ := el1 (HR.out.below HE.out).els k h2
    obtain ⟨g0, g1, g2, g3⟩ := hc
    obtain ⟨x0, x1, x2, x3, x4, x5⟩ := (HX.out.next HE.out).box
    have hkl := HL.out.1.1
    clear h1 hel h3
    go_wp2
    go_ret
    exact ⟨by rw [HV.out]; rfl, Below_next HB.out HE.out⟩
end Go.Proofs.YthpipapgjjfalaaDoor
