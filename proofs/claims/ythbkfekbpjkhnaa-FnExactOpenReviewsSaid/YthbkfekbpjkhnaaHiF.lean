/- The records of a history, in the program. -/
import Derived.Test.YthbkfekbpjkhnaaHiE
import Derived.Test.YthbkfekbpjkhnaaPgNc
import Derived.Deep.RegionHeld3
namespace Go.Proofs.Ythbkfekbpjkhnaa
open Go.ChangeShapes Go.WideShapes Go.ChangeAt Go.RowKit Go.Lib Go.Proofs
set_option linter.unusedVariables false

theorem it_take {α : Type} [Inhabited α] (xs : List α) {k j : Nat} (h : j < k) : it (xs.take k) j = it xs j := by
  unfold it
  rw [List.getD_eq_getElem?_getD, List.getD_eq_getElem?_getD, List.getElem?_take_of_lt h]
theorem lst_take {α : Type} [Flat α] {w : World} {B : Nat} {A : Option Addr} {xs : List α} (h : Lst w B A xs) (k : Nat) : Lst w B A (xs.take k) := fun hp => by
  have hl : (xs.take k).length = min k xs.length := List.length_take
  obtain ⟨b, o, h1, h2, h3⟩ := h (by omega)
  refine ⟨b, o, h1, h2, fun i hi => ?_⟩
  rw [it_take xs (by omega)]
  exact h3 i (by omega)
theorem Below_next {w w1 w2 : World} (h : Below w.heap.size w w1) (k : Below w1.heap.size w1 w2) : Below w.heap.size w w2 := h.trans (k.mono h.size)
/-- The records of the first k changes. -/
def rcTo (xs : List Im) (hs : List Cg) (k : Nat) : List Rc := (List.range k).map fun j => rcB xs (hs.take j) (it hs j)
theorem rcTo_len (xs : List Im) (hs : List Cg) (k : Nat) : (rcTo xs hs k).length = k := by simp [rcTo]
theorem rcTo_succ (xs : List Im) (hs : List Cg) (k : Nat) : rcTo xs hs (k + 1) = rcTo xs hs k ++ [rcB xs (hs.take k) (it hs k)] := by simp [rcTo, List.range_succ]
theorem rcTo_it (xs : List Im) (hs : List Cg) (k j : Nat) (h : j < k) : it (rcTo xs hs k) j = rcB xs (hs.take j) (it hs j) := by
  unfold rcTo
  conv => lhs; unfold it
  rw [List.getD_eq_getElem?_getD, List.getElem?_map, List.getElem?_range h]
  rfl
theorem rcB_eq (xs : List Im) (hs : List Cg) (k : Nat) (hk : k ≤ hs.length) : rcB xs (hs.take k) (it hs k) = ⟨it hs k, mkS xs hs (it hs k).item (it hs k).name k, opS hs (it hs k).item (it hs k).name k⟩ := by
  have hl : (hs.take k).length = k := by rw [List.length_take]; omega
  unfold rcB
  rw [hl, mkS_congr _ _ k (fun j hj => it_take hs hj), opS_congr _ _ k (fun j hj => it_take hs hj)]
theorem rcAl_iff (xs : List Im) (hs : List Cg) (k : Nat) (hk : k ≤ hs.length) : rcAl (rcB xs (hs.take k) (it hs k)) = true ↔ ((it hs k).review = true → (it hs k).mark = mkS xs hs (it hs k).item (it hs k).name k ∧ opS hs (it hs k).item (it hs k).name k = false) := by
  rw [rcB_eq xs hs k hk]
  unfold rcAl
  cases (it hs k).review <;> simp
/-- The first k changes are a history so far. -/
structure PreOk (xs : List Im) (hs : List Cg) (k : Nat) : Prop where
  ok : CgAll xs hs k
  tk : ∀ j, j < k → TkOk hs j
theorem PreOk.zero (xs : List Im) (hs : List Cg) : PreOk xs hs 0 := ⟨fun j hj => absurd hj (by omega), fun j hj => absurd hj (by omega)⟩
theorem PreOk.step {xs : List Im} {hs : List Cg} {k : Nat} (h : PreOk xs hs k) (hk : k ≤ hs.length) (hi : IcOk xs (it hs k)) (hup : 0 < k → (it hs (k - 1)).tick ≤ (it hs k).tick) (ha : rcAl (rcB xs (hs.take k) (it hs k)) = true) : PreOk xs hs (k + 1) := by
  refine ⟨fun j hj => ?_, fun j hj => ?_⟩
  · rcases Nat.lt_or_ge j k with g | g
    · exact h.ok j g
    · obtain rfl : j = k := by omega
      exact ⟨hi.nm, hi.c1, hi.c2, hi.mr, (rcAl_iff xs hs j hk).1 ha⟩
  · rcases Nat.lt_or_ge j k with g | g
    · exact h.tk j g
    · obtain rfl : j = k := by omega
      exact ⟨hi.tk.1, hi.tk.2, hup⟩
theorem PreOk.all {xs : List Im} {hs : List Cg} (h : PreOk xs hs hs.length) (hl : ListOk xs) (hf : hs.length ≤ 60) : HiOk xs hs := ⟨hl, hf, h.tk, h.ok⟩
theorem HiOk.ic {xs : List Im} {hs : List Cg} (h : HiOk xs hs) {k : Nat} (hk : k < hs.length) : IcOk xs (it hs k) := by
  have h1 := h.2.ok k hk
  have h2 := h.2.tk k hk
  exact ⟨⟨h2.t0, h2.t1⟩, h1.c1, h1.c2, h1.nm, h1.mr⟩
theorem HiOk.al {xs : List Im} {hs : List Cg} (h : HiOk xs hs) {k : Nat} (hk : k < hs.length) : rcAl (rcB xs (hs.take k) (it hs k)) = true := (rcAl_iff xs hs k (by omega)).2 (h.2.ok k hk).rv
/-- The box of a change, and a cell of another one. -/
def BxS (bx : Nat) (x : Cg) (p : Addr) (t : Int) (w : World) : Prop :=
  w.cell? ⟨bx, 0, none⟩ = some (.int .i64 x.tick) ∧ w.cell? ⟨bx, 1, none⟩ = some (.int .i64 x.caller) ∧ w.cell? ⟨bx, 2, none⟩ = some (.int .i64 x.item) ∧ w.cell? ⟨bx, 3, none⟩ = some (.int .i64 x.name) ∧ w.cell? ⟨bx, 4, none⟩ = some (.int .i64 x.mark) ∧ w.cell? ⟨bx, 5, none⟩ = some (.bool x.review) ∧ w.cell? p = some (.int .i64 t)
theorem CgBx.all {w : World} {b : Nat} {x : Cg} (h : CgBx w b x) : w.cell? ⟨b, 0, none⟩ = some (.int .i64 x.tick) ∧ w.cell? ⟨b, 1, none⟩ = some (.int .i64 x.caller) ∧ w.cell? ⟨b, 2, none⟩ = some (.int .i64 x.item) ∧ w.cell? ⟨b, 3, none⟩ = some (.int .i64 x.name) ∧ w.cell? ⟨b, 4, none⟩ = some (.int .i64 x.mark) ∧ w.cell? ⟨b, 5, none⟩ = some (.bool x.review) := ⟨h.c0, h.c1, h.c2, h.c3, h.c4, h.c5⟩
theorem rc_one (r : Rc) : ∀ u ∈ Rc.cs r, u.oneCell' = true := fun u hu => by
  simp [Rc.cs] at hu
  rcases hu with rfl | rfl | rfl | rfl | rfl | rfl | rfl | rfl <;> rfl
theorem rc_news {W : World} {b : Nat} {r : Rc} (h : RcBx W b r) : ∀ j u, (Rc.cs r)[j]? = some u → W.cell? ((⟨b, 0, none⟩ : Addr).add j) = some u := fun j u hj => by
  match j, hj with
  | 0, hj => obtain rfl := Option.some.inj hj; exact h.c0
  | 1, hj => obtain rfl := Option.some.inj hj; exact h.c1
  | 2, hj => obtain rfl := Option.some.inj hj; exact h.c2
  | 3, hj => obtain rfl := Option.some.inj hj; exact h.c3
  | 4, hj => obtain rfl := Option.some.inj hj; exact h.c4
  | 5, hj => obtain rfl := Option.some.inj hj; exact h.c5
  | 6, hj => obtain rfl := Option.some.inj hj; exact h.c6
  | 7, hj => obtain rfl := Option.some.inj hj; exact h.c7
/-- The record of the change behind the first k ones, as the program asks for it. -/
theorem recordBehind_at (P : Option Addr) (c : Nat) (xs : List Im) (A : Option Addr) (ch : Nat) (hs : List Cg) (k : Nat) (w : World) (hr : Ims w w.heap.size P xs) (hl : ImsFits xs) (hok : ListOk xs) (hg : Lst w w.heap.size A hs) (hk : k < hs.length) (hgl : hs.length ≤ 60) (hic : IcOk xs (it hs k)) :
    Calls Try.prog 76 #[.slice P xs.length c, .slice A k ch, (it hs k).val] w fun e w' => e = .returned ((rcB xs (hs.take k) (it hs k)).val) ∧ Below w.heap.size w w' := by
  have h1 : (hs.take k).length = k := by rw [List.length_take]; omega
  have h2 := recordBehind_any P c xs A ch (hs.take k) (it hs k) w hr hl hok hic.nm (lst_take hg k) (by omega)
  rwa [h1] at h2
/-- A record stored into a variable that is made for it. -/
theorem rc_boxed (w : World) (r : Rc) : RcBx (putAt w.heap.size 0 (w.alloc (.cells #[.int .i64 0, .int .i64 0, .int .i64 0, .int .i64 0, .int .i64 0, .bool false, .int .i64 0, .bool false] 98)) 0 (Flat.cells r)) w.heap.size r ∧ Below w.heap.size w (putAt w.heap.size 0 (w.alloc (.cells #[.int .i64 0, .int .i64 0, .int .i64 0, .int .i64 0, .int .i64 0, .bool false, .int .i64 0, .bool false] 98)) 0 (Flat.cells r)) := by
  have h1 : RcOwn (w.alloc (.cells #[.int .i64 0, .int .i64 0, .int .i64 0, .int .i64 0, .int .i64 0, .bool false, .int .i64 0, .bool false] 98)) w.heap.size := ⟨rcBx_new w default 98, by simp⟩
  exact ⟨h1.put r, (below_alloc w _).trans ((putAt_only (S := fun k => k = w.heap.size) rfl 0 (Flat.cells r) _ _ 0 (Only.refl _ _)).below (B := w.heap.size) (by simp) (fun k e => Nat.le_of_eq e.symm))⟩
/-- The same where another call came between. -/
theorem rc_boxed2 {w w6 : World} (r : Rc) (hb : Below (w.alloc (.cells #[.int .i64 0, .int .i64 0, .int .i64 0, .int .i64 0, .int .i64 0, .bool false, .int .i64 0, .bool false] 98)).heap.size (w.alloc (.cells #[.int .i64 0, .int .i64 0, .int .i64 0, .int .i64 0, .int .i64 0, .bool false, .int .i64 0, .bool false] 98)) w6) :
    RcBx (putAt w.heap.size 0 w6 0 (Flat.cells r)) w.heap.size r ∧ Below w.heap.size w (putAt w.heap.size 0 w6 0 (Flat.cells r)) := by
  have h1 : RcOwn (w.alloc (.cells #[.int .i64 0, .int .i64 0, .int .i64 0, .int .i64 0, .int .i64 0, .bool false, .int .i64 0, .bool false] 98)) w.heap.size := ⟨rcBx_new w default 98, by simp⟩
  have hs : w.heap.size < w6.heap.size := Nat.lt_of_lt_of_le (by simp) hb.size
  exact ⟨(h1.below hb).put r, (below_next (below_alloc w _) hb).trans ((putAt_only (S := fun k => k = w.heap.size) rfl 0 (Flat.cells r) _ _ 0 (Only.refl _ _)).below (B := w.heap.size) (by omega) (fun k e => Nat.le_of_eq e.symm))⟩
/-- One record more. -/
theorem rc_step {w1 w8 w9 : World} {v v1 : Value} {xs : List Im} {hs : List Cg} {k : Nat} {rc : Rc} {ob : Obj} {e : TypeId} (hO : w8.ownsRow w1.heap.size e 8 v k ((rcTo xs hs k).flatMap Flat.cells)) (hB : Below w1.heap.size w1 w8) (hrc : rc = rcB xs (hs.take k) (it hs k))
    (hown : w9.ownsRow w1.heap.size e 8 v1 (k + 1) ((rcTo xs hs k).flatMap Flat.cells ++ Rc.cs rc)) (hgrow : (w8.alloc ob).grownBy w9 v.ownBlock) :
    w9.ownsRow w1.heap.size e 8 v1 (k + 1) ((rcTo xs hs (k + 1)).flatMap Flat.cells) ∧ Below w1.heap.size w1 w9 := by
  refine ⟨?_, Below.grown (hB.trans ((below_alloc w8 ob).mono hB.size)) hgrow (by have := hB.size; simp; omega) (fun m e => (hO.lt m e).1)⟩
  rw [rcTo_succ, List.flatMap_append, List.flatMap_cons, List.flatMap_nil, List.append_nil, ← hrc]
  exact hown
/-- The list of records, in memory. -/
theorem rcs_form {w : World} {B : Nat} {e : TypeId} {v : Value} {rs : List Rc} (h : w.ownsRow B e 8 v rs.length (rs.flatMap Flat.cells)) : ∃ R d, v = .slice R rs.length d ∧ Lst w w.heap.size R rs := by
  rcases h.2 with ⟨hv, h0⟩ | ⟨g, cap, cur, rfl, h3, h4, h5⟩
  · obtain rfl : rs = [] := List.eq_nil_of_length_eq_zero h0
    exact ⟨none, 0, hv, Lst.nil _ _ _⟩
  · have hlt := h.lt g rfl
    exact ⟨some ⟨g, 0, none⟩, cap, rfl, Owned.lst (S := fun i => i = g) (fun _ => ⟨g, 0, rfl, rfl, hlt.2, own_of_row rs h⟩)⟩
end Go.Proofs.Ythbkfekbpjkhnaa
