/- What the laws' helpers do with lists of changes; what the readings of changes say of their cells. -/
import Derived.Test.YthbkfekbpjkhnaaHiA
import Derived.Test.YthbkfekbpjkhnaaItemW
import Derived.Test.YthbkfekbpjkhnaaItemH
namespace Go.Proofs.Ythbkfekbpjkhnaa
open Go.ChangeShapes Go.WideShapes Go.ChangeAt Go.RowKit Go.Deep Go.Lib Go.Proofs
set_option linter.unusedVariables false

section
variable {H : Type} {enc : TypeId × Value → H} {w : World}
set_option maxRecDepth 100000 in
theorem rdChange {cs : List Value} (h : Rd enc Try.prog w 47 cs) : ∃ x : Cg, cs = Flat.cells x ∧ True := by
  obtain ⟨hl, hf⟩ := rd_struct Try.underlying47 (by kernel_rfl) (by kernel_rfl) h
  obtain ⟨v0, e0, r0⟩ := hf 0 _ rfl
  obtain ⟨v1, e1, r1⟩ := hf 1 _ rfl
  obtain ⟨v2, e2, r2⟩ := hf 2 _ rfl
  obtain ⟨v3, e3, r3⟩ := hf 3 _ rfl
  obtain ⟨v4, e4, r4⟩ := hf 4 _ rfl
  obtain ⟨v5, e5, r5⟩ := hf 5 _ rfl
  obtain ⟨a, rfl, _⟩ := rd_int Try.underlying3 r0
  obtain ⟨b, rfl, _⟩ := rd_int Try.underlying3 r1
  obtain ⟨c, rfl, _⟩ := rd_int Try.underlying3 r2
  obtain ⟨d, rfl, _⟩ := rd_int Try.underlying3 r3
  obtain ⟨m, rfl, _⟩ := rd_int Try.underlying3 r4
  obtain ⟨f, rfl⟩ := rd_bool Try.underlying4 r5
  refine ⟨⟨a, b, c, d, m, f⟩, ?_, trivial⟩
  match cs, hl, e0, e1, e2, e3, e4, e5 with
  | [a0, a1, a2, a3, a4, a5], _, e0, e1, e2, e3, e4, e5 =>
    obtain rfl := Option.some.inj e0
    obtain rfl := Option.some.inj e1
    obtain rfl := Option.some.inj e2
    obtain rfl := Option.some.inj e3
    obtain rfl := Option.some.inj e4
    obtain rfl := Option.some.inj e5
    rfl
set_option maxRecDepth 100000 in
theorem openChange {base : Nat} {v : Value} {d : DataW H} {p : List MemPlace} (hv : Value.okWide Try.prog w .any base 47 v) (h : DataW.Trod enc Try.prog w 0 (fun _ => true) true 47 v d p) :
    ∃ x : Cg, v = x.val ∧ True := by
  obtain ⟨cs, rfl⟩ := agg_of Try.underlying47 hv
  obtain ⟨x, hx, _⟩ := rdChange (rd_of (r := .any) (b0 := 0) h)
  refine ⟨x, ?_, trivial⟩
  have hc : cs = ⟨Cg.cs x⟩ := Array.ext' hx
  rw [hc]
  rfl
set_option maxRecDepth 100000 in
theorem openChanges {base : Nat} {v : Value} {d : DataW H} {p : List MemPlace} (hv : Value.okWide Try.prog w .any base 23 v) (h : DataW.Trod enc Try.prog w 0 (fun _ => true) true 23 v d p) :
    ∃ (P : Option Addr) (c : Nat) (xs : List Cg), v = .slice P xs.length c ∧ Lst w w.heap.size P xs ∧ xs.length ≤ 9223372036854775807 := by
  have hr := rd_of (r := .any) (b0 := 0) h
  rw [slice_cells Try.underlying23 hv] at hr
  obtain ⟨A, c, xs, rfl, hx1, hx2, hx3⟩ := rd_list (α := Cg) (fun x => True) Try.underlying23 (by kernel_rfl) (by decide) (fun cs h => rdChange h) hr
  exact ⟨A, c, xs, rfl, hx2, hx1⟩
end
theorem Lst.next {α : Type} [Flat α] {w w' : World} {A : Option Addr} {xs : List α} (h : Lst w w.heap.size A xs) (hb : Below w.heap.size w w') : Lst w' w'.heap.size A xs := (h.below hb (Nat.le_refl _)).up hb.size
theorem boxedC (t : TypeId) (w : World) (x : Cg) : ∃ W, W = w.alloc (x.obj t) ∧ Below w.heap.size w W ∧ CgBx W w.heap.size x ∧ w.heap.size < W.heap.size := ⟨_, rfl, below_alloc _ _, cgBx_new w x t, by simp⟩
theorem CgBx.all' {w : World} {b : Nat} {x : Cg} (h : CgBx w b x) : w.cell? ⟨b, 0, none⟩ = some (.int .i64 x.tick) ∧ w.cell? ⟨b, 1, none⟩ = some (.int .i64 x.caller) ∧ w.cell? ⟨b, 2, none⟩ = some (.int .i64 x.item) ∧ w.cell? ⟨b, 3, none⟩ = some (.int .i64 x.name) ∧ w.cell? ⟨b, 4, none⟩ = some (.int .i64 x.mark) ∧ w.cell? ⟨b, 5, none⟩ = some (.bool x.review) := ⟨h.c0, h.c1, h.c2, h.c3, h.c4, h.c5⟩
theorem szChangeS_b (A : Option Addr) (c : Nat) (xs : List Cg) (left : Int) (w : World) (hl : xs.length ≤ 9223372036854775807) (h0 : 0 ≤ left) (h1 : left ≤ 1048576) :
    Calls Try.prog 12 #[.slice A xs.length c, .int .i64 left] w fun e w' => (∃ q : Int, e = .returned (.int .i64 q) ∧ (q < 0 ∨ 0 ≤ q ∧ q ≤ left ∧ xs.length ≤ 1048576)) ∧ Below w.heap.size w w' :=
  (szChangeS_any A c xs left w hl h0 h1).mono fun e w' h => ⟨h.1, by rw [h.2]; exact Below.refl _ _⟩
theorem toChangeS_c (A : Option Addr) (c : Nat) (xs : List Cg) (w : World) (hr : Lst w w.heap.size A xs) (hl : xs.length ≤ 1048576) :
    Calls Try.prog 15 #[.slice A xs.length c] w fun e w' => e = .returned (.slice (some ⟨w.heap.size, 0, none⟩) xs.length xs.length) ∧ Owned (fun i => w.heap.size ≤ i ∧ i < w'.heap.size) w' (some ⟨w.heap.size, 0, none⟩) xs ∧ Below w.heap.size w w' :=
  (toChangeS_any A c xs w hr hl).mono fun e w' h => ⟨h.1, fun _ => ⟨w.heap.size, 0, rfl, ⟨Nat.le_refl _, h.2.2.1⟩, h.2.2.1, h.2.1⟩, h.2.2.2⟩
theorem eqChangeS_n (A A' : Option Addr) (c c' n : Nat) (xs : List Cg) (hn : xs.length = n) (w : World) (hr : Lst w w.heap.size A xs) (hr' : Lst w w.heap.size A' xs) (hl : xs.length ≤ 1048576) :
    Calls Try.prog 18 #[.slice A n c, .slice A' n c'] w fun e w' => e = .returned (.bool true) ∧ Below w.heap.size w w' := by
  subst hn
  exact eqChangeS_yes A A' c c' xs w hr hr' hl
theorem markItemS_c (S : Nat → Prop) (P : Option Addr) (c : Nat) (g : Nat) (G : Nat → Nat) (xs ys : List Im) (m : Int) (k : Nat) (w : World) (hm : m = (k : Int)) (hs : SameS xs ys) (hr : ImsOwn S w P g G ys) (hl : ImsFits xs) (hk : 0 < k) (hk2 : k ≤ 1000000000000) :
    Calls Try.prog 21 #[.slice P xs.length c, .int .i64 m] w fun e w' => (∃ n : Nat, e = .returned (.int .i64 (n : Int)) ∧ 0 < n ∧ n ≤ 100000000000000) ∧ Only S w w' := by
  subst hm
  rw [← hs.len]
  have hb := kAt_small ys k (hs.fits hl) (by omega) ys.length (Nat.le_refl _)
  exact (markItemS_any S P c g G ys k w hr (hs.fits hl) hk (by omega)).mono (by rintro e w' ⟨rfl, _, h⟩; exact ⟨⟨_, rfl, by omega, hb.2⟩, h⟩)
theorem markChangeS_b (S : Nat → Prop) (A : Option Addr) (c : Nat) (xs : List Cg) (k : Nat) (w : World) (hr : Owned S w A xs) (hl : xs.length ≤ 1048576) (hk : 0 < k) (hk2 : k ≤ 100000000000000) :
    Calls Try.prog 22 #[.slice A xs.length c, .int .i64 (k : Int)] w fun e w' => (∃ n : Int, e = .returned (.int .i64 n) ∧ 0 ≤ n) ∧ Only S w w' :=
  (markChangeS_any S A c xs k w hr hl hk (by omega)).mono fun e w' h => ⟨⟨_, h.1, by omega⟩, h.2.2⟩
theorem markChangeS_m (S : Nat → Prop) (A : Option Addr) (c : Nat) (xs : List Cg) (w : World) (hr : Owned S w A xs) (hl : xs.length ≤ 1048576) :
    Calls Try.prog 22 #[.slice A xs.length c, .int .i64 1] w fun e w' => e = .returned (.int .i64 ((1 + xs.length * 6 : Nat) : Int)) ∧ Owned S w' A (marksCg 1 xs.length) ∧ Only S w w' :=
  markChangeS_any S A c xs 1 w hr hl (by omega) (by omega)
theorem heldChangeS_m (A : Option Addr) (c n : Nat) (w : World) (hr : Lst w w.heap.size A (marksCg 1 n)) (hl : n ≤ 1048576) :
    Calls Try.prog 34 #[.slice A n c, .int .i64 1] w fun e w' => e = .returned (.int .i64 ((1 + n * 6 : Nat) : Int)) ∧ Below w.heap.size w w' :=
  heldChangeS_any A c n 1 w hr hl (by omega) (by omega)
end Go.Proofs.Ythbkfekbpjkhnaa
