/- The family of a name and of an item, in the model and in the program. The family of a name in the program; FamilyOf, in the model and in the program. How many items of each family a list has, in the model and in the program. FamilyCounts in the model and in the program. RoomIn in the model and in the program. -/
import Derived.Test.YtnlcdfaojcnkpaaDoorBc
import Derived.Test.YtnlcdfaojcnkpaaDoorBd
import Derived.Deep.RegionHeld3
namespace Go.Proofs.YtnlcdfaojcnkpaaDoor
open Go.ChangeShapes Go.WideShapes Go.ChangeAt Go.RowKit
set_option linter.unusedVariables false

/-- The index of a name, or -1. -/
noncomputable def fndI (xs : List El) (n : ByteArray) : Int := Classical.choose (First.have xs n)
theorem fndI_first (xs : List El) (n : ByteArray) : First xs n (fndI xs n) := Classical.choose_spec (First.have xs n)
/-- The family of a name, or -1. -/
noncomputable def famI (x : Cd) (n : ByteArray) : Int := if 0 ≤ fndI x.els n then (it x.els (fndI x.els n).toNat).fam else -1
theorem famI_no {x : Cd} {n : ByteArray} (h : ¬ 0 ≤ fndI x.els n) : famI x n = -1 := if_neg h
theorem famI_hit {x : Cd} {n : ByteArray} {k : Nat} (h : fndI x.els n = k) : famI x n = (it x.els k).fam := by
  unfold famI
  rw [if_pos (by omega), h]
  rfl
/-- An element with the name, or none. -/
theorem fndI_cases (xs : List El) (n : ByteArray) : (fndI xs n = -1) ∨ ∃ k : Nat, fndI xs n = k ∧ k < xs.length ∧ (it xs k).name = n := by
  rcases fndI_first xs n with ⟨h, _⟩ | ⟨i, h1, h2, h3, _⟩
  · exact .inl h
  · exact .inr ⟨i, h1, h2, h3⟩

/-- An item's box. -/
def boxIm (t : TypeId) (w : World) (y : Im) : World := w.alloc (.cells #[.slice y.A y.ns.length y.c, .slice y.L y.ms.length y.d, .bool y.late] t)
structure BoxedI (w W : World) (y : Im) : Prop where
  below : Below w.heap.size w W
  size : W.heap.size = w.heap.size + 1
  box : ImBox W w.heap.size y
theorem boxedI (t : TypeId) (w : World) (y : Im) : ∃ W, W = boxIm t w y ∧ BoxedI w W y :=
  ⟨_, rfl, below_alloc _ _, by simp [boxIm], imBox_new w t y⟩

theorem str1 {w : World} {B : Nat} {A : Option Addr} {xs : List ByteArray} (h : Lst w B A xs) (hp : 0 < xs.length) : ∃ b o, A = some ⟨b, o, none⟩ ∧ b < B ∧ w.cell? ⟨b, o, none⟩ = some (.string (it xs 0)) := by
  obtain ⟨b, o, h1, h2, h3⟩ := h.str hp
  exact ⟨b, o, h1, h2, h3 0 hp⟩
theorem el1 {w : World} {B : Nat} {A : Option Addr} {xs : List El} (h : Lst w B A xs) (k : Nat) (hk : k < xs.length) : ∃ b o, A = some ⟨b, o, none⟩ ∧ b < B ∧ ElAt w b (o + k * 4) (it xs k) := by
  obtain ⟨b, o, h1, h2, h3⟩ := h.el (by omega)
  exact ⟨b, o, h1, h2, h3 k hk⟩

/-- A code's box, an item's slice of names and its first name are still read. -/
theorem held_cn {W w' : World} {B B' b o n c1 : Nat} {A L : Option Addr} {c d : Nat} {x : Cd} {s : ByteArray} (hX : BoxAt W B A c L d x) (hY : W.cell? ⟨B', 0, none⟩ = some (.slice (some ⟨b, o, none⟩) n c1)) (hS : W.cell? ⟨b, o, none⟩ = some (.string s)) (h1 : B' < W.heap.size) (h2 : b < W.heap.size) (hb : Below W.heap.size W w') :
    w'.cell? ⟨B, 0, none⟩ = some (.slice A x.els.length c) ∧ w'.cell? ⟨B, 1, none⟩ = some (.slice L x.lims.length d) ∧ w'.cell? ⟨B, 2, none⟩ = some (.int .i64 x.rep) ∧ w'.cell? ⟨B, 3, none⟩ = some (.int .i64 x.bon) ∧ w'.cell? ⟨B, 4, none⟩ = some (.int .i64 x.kee) ∧ w'.cell? ⟨B, 5, none⟩ = some (.int .i64 x.fal) ∧ w'.cell? ⟨B', 0, none⟩ = some (.slice (some ⟨b, o, none⟩) n c1) ∧ w'.cell? ⟨b, o, none⟩ = some (.string s) := by
  obtain ⟨e0, e1, e2, e3, e4, e5⟩ := (hX.next hb).box
  exact ⟨e0, e1, e2, e3, e4, e5, (hb.cell (p := ⟨B', 0, none⟩) h1).trans hY, (hb.cell (p := ⟨b, o, none⟩) h2).trans hS⟩
end Go.Proofs.YtnlcdfaojcnkpaaDoor

namespace Go.Proofs.YtnlcdfaojcnkpaaDoor
open Go.ChangeShapes Go.WideShapes Go.ChangeAt Go.RowKit
set_option linter.unusedVariables false

/-- The family of a name and whether there is one. -/
noncomputable def famV (x : Cd) (n : ByteArray) : Value := if 0 ≤ fndI x.els n then .tuple #[.int .i64 (famI x n), .bool true] else .tuple #[.int .i64 0, .bool false]
theorem famV_no {x : Cd} {n : ByteArray} (h : ¬ 0 ≤ fndI x.els n) : famV x n = .tuple #[.int .i64 0, .bool false] := if_neg h
theorem famV_yes {x : Cd} {n : ByteArray} (h : 0 ≤ fndI x.els n) : famV x n = .tuple #[.int .i64 (famI x n), .bool true] := if_pos h
/-- A valid code's families. -/
theorem famI_ok {x : Cd} (h : CdOk x) (n : ByteArray) : (famI x n = -1 ∧ ¬ 0 ≤ fndI x.els n) ∨ (0 ≤ famI x n ∧ famI x n ≤ 4 ∧ 0 ≤ fndI x.els n) := by
  rcases fndI_cases x.els n with h1 | ⟨k, h1, h2, _⟩
  · exact .inl ⟨famI_no (by omega), by omega⟩
  · have := (h.els.el k h2).fam
    rw [famI_hit h1]
    exact .inr ⟨this.1, this.2, by omega⟩
/-- What FamilyOf answers. -/
structure FoOk (x : Cd) (ns : List ByteArray) (ms : List Int) : Prop where
  cd : CdOk x
  itm : ItOk ns ms
  fnd : 0 ≤ fndI x.els (it ns 0)
noncomputable def foV (x : Cd) (ns : List ByteArray) (ms : List Int) : Value := @ite _ (FoOk x ns ms) (Classical.propDecidable _) (.tuple #[.int .i64 (famI x (it ns 0)), .bool true]) (.tuple #[.int .i64 0, .bool false])
theorem foV_yes {x : Cd} {ns : List ByteArray} {ms : List Int} (h : FoOk x ns ms) : foV x ns ms = .tuple #[.int .i64 (famI x (it ns 0)), .bool true] := by unfold foV; exact @if_pos _ (Classical.propDecidable _) h _ _ _
theorem foV_no {x : Cd} {ns : List ByteArray} {ms : List Int} (h : ¬ FoOk x ns ms) : foV x ns ms = .tuple #[.int .i64 0, .bool false] := by unfold foV; exact @if_neg _ (Classical.propDecidable _) h _ _ _
theorem foV_form (x : Cd) (ns : List ByteArray) (ms : List Int) : ∃ (p : Int) (q : Bool), foV x ns ms = .tuple #[.int .i64 p, .bool q] := by
  by_cases h : FoOk x ns ms
  · exact ⟨_, true, foV_yes h⟩
  · exact ⟨0, false, foV_no h⟩
/-- Both boxes are there. -/
theorem two_boxes {W w' : World} {B B' : Nat} {A L : Option Addr} {c d : Nat} {x : Cd} {y : Im} (hX : BoxAt W B A c L d x) (hY : ImBox W B' y) (hb : Below W.heap.size W w') :
    w'.cell? ⟨B, 0, none⟩ = some (.slice A x.els.length c) ∧ w'.cell? ⟨B, 1, none⟩ = some (.slice L x.lims.length d) ∧ w'.cell? ⟨B, 2, none⟩ = some (.int .i64 x.rep) ∧ w'.cell? ⟨B, 3, none⟩ = some (.int .i64 x.bon) ∧ w'.cell? ⟨B, 4, none⟩ = some (.int .i64 x.kee) ∧ w'.cell? ⟨B, 5, none⟩ = some (.int .i64 x.fal) ∧ w'.cell? ⟨B', 0, none⟩ = some (.slice y.A y.ns.length y.c) ∧ w'.cell? ⟨B', 1, none⟩ = some (.slice y.L y.ms.length y.d) ∧ w'.cell? ⟨B', 2, none⟩ = some (.bool y.late) := by
  obtain ⟨e0, e1, e2, e3, e4, e5⟩ := (hX.next hb).box
  obtain ⟨_, f0, f1, f2⟩ := hY.next hb
  exact ⟨e0, e1, e2, e3, e4, e5, f0, f1, f2⟩
/-- The two boxes of a call over a code and an item. -/
theorem boxed2 (t u : TypeId) (w : World) (A : Option Addr) (c : Nat) (L : Option Addr) (d : Nat) (x : Cd) (y : Im) : ∃ V W, V = boxCd t w A c L d x ∧ W = boxIm u V y ∧ Below w.heap.size w W ∧ BoxAt W w.heap.size A c L d x ∧ ImBox W (w.heap.size + 1) y ∧ W.heap.size = w.heap.size + 2 := by
  obtain ⟨V, hV, hB⟩ := boxed t w A c L d x
  obtain ⟨W, hW, hI⟩ := boxedI u V y
  have h1 := hB.size
  have h2 := hI.size
  exact ⟨V, W, hV, hW, Below_next hB.below hI.below, hB.at_.next hI.below, h1 ▸ hI.box, by omega⟩

end Go.Proofs.YtnlcdfaojcnkpaaDoor

namespace Go.Proofs.YtnlcdfaojcnkpaaDoor
open Go.ChangeShapes Go.WideShapes Go.ChangeAt Go.RowKit
set_option linter.unusedVariables false

/-- The first name of item k. -/
def nam0 (xs : List Im) (k : Nat) : ByteArray := it (it xs k).ns 0
/-- The counts of the first k items. -/
noncomputable def cntG (x : Cd) (xs : List Im) : Nat → List Int
  | 0 => List.replicate 5 0
  | k + 1 => if 0 ≤ fndI x.els (nam0 xs k) then bump (cntG x xs k) (famI x (nam0 xs k)).toNat else cntG x xs k
theorem cntG_no {x : Cd} {xs : List Im} {k : Nat} (h : ¬ 0 ≤ fndI x.els (nam0 xs k)) : cntG x xs (k + 1) = cntG x xs k := if_neg h
theorem cntG_yes {x : Cd} {xs : List Im} {k : Nat} (h : 0 ≤ fndI x.els (nam0 xs k)) : cntG x xs (k + 1) = bump (cntG x xs k) (famI x (nam0 xs k)).toNat := if_pos h
theorem cntG_len (x : Cd) (xs : List Im) : ∀ k, (cntG x xs k).length = 5
  | 0 => rfl
  | k + 1 => by
    by_cases h : 0 ≤ fndI x.els (nam0 xs k)
    · rw [cntG_yes h, bump_len, cntG_len x xs k]
    · rw [cntG_no h, cntG_len x xs k]
theorem small_cntG (x : Cd) (xs : List Im) : ∀ k : Nat, Small (cntG x xs k) k
  | 0 => fun i hi => by
    rw [cntG_len] at hi
    have : it (cntG x xs 0) i = 0 := by
      unfold it cntG
      rw [List.getD_eq_getElem?_getD, List.getElem?_replicate, if_pos hi]
      rfl
    rw [this]
    simp
  | k + 1 => by
    by_cases h : 0 ≤ fndI x.els (nam0 xs k)
    · rw [cntG_yes h]
      have := small_bump (small_cntG x xs k) (famI x (nam0 xs k)).toNat (by omega)
      intro i hi
      have := this i hi
      omega
    · rw [cntG_no h]
      intro i hi
      have := small_cntG x xs k i hi
      omega
theorem nam0_same {xs ys : List Im} (h : SameS xs ys) (k : Nat) (hk : k < xs.length) : nam0 ys k = nam0 xs k := by
  unfold nam0
  rw [(h.each k hk).ns]
theorem cntG_same {x : Cd} {xs ys : List Im} (h : SameS xs ys) : ∀ k, k ≤ xs.length → cntG x ys k = cntG x xs k
  | 0, _ => rfl
  | k + 1, hk => by rw [cntG, cntG, cntG_same h k (by omega), nam0_same h k (by omega)]
/-- A valid code and a valid list. -/
structure PgAsk (x : Cd) (xs : List Im) : Prop where
  cd : CdOk x
  ls : ListOk xs
theorem PgAsk.same {x : Cd} {xs ys : List Im} (h : SameS xs ys) (k : PgAsk x xs) : PgAsk x ys := ⟨k.cd, k.ls.same h⟩
theorem pgAsk_same {x : Cd} {xs ys : List Im} (h : SameS xs ys) : pB (PgAsk x ys) = pB (PgAsk x xs) := pB_iff ⟨fun k => k.same h.symm, fun k => k.same h⟩

end Go.Proofs.YtnlcdfaojcnkpaaDoor

namespace Go.Proofs.YtnlcdfaojcnkpaaDoor
open Go.ChangeShapes Go.WideShapes Go.ChangeAt Go.RowKit
set_option linter.unusedVariables false

/-- What FamilyCounts answers. -/
noncomputable def fcF (x : Cd) (xs : List Im) : List Int := @ite _ (PgAsk x xs) (Classical.propDecidable _) (cntG x xs xs.length) []
theorem fcF_yes {x : Cd} {xs : List Im} (h : PgAsk x xs) : fcF x xs = cntG x xs xs.length := by unfold fcF; rw [if_pos h]
theorem fcF_no {x : Cd} {xs : List Im} (h : ¬ PgAsk x xs) : fcF x xs = [] := by unfold fcF; rw [if_neg h]
theorem fcF_same {x : Cd} {xs ys : List Im} (h : SameS xs ys) : fcF x ys = fcF x xs := by
  by_cases k : PgAsk x xs
  · rw [fcF_yes k, fcF_yes (k.same h), h.len, cntG_same h _ (Nat.le_refl _)]
  · rw [fcF_no k, fcF_no (fun q => k (q.same h.symm))]
theorem fcF_len (x : Cd) (xs : List Im) : (fcF x xs).length ≤ 1048576 := by
  by_cases k : PgAsk x xs
  · rw [fcF_yes k, cntG_len]; decide
  · rw [fcF_no k]; decide

end Go.Proofs.YtnlcdfaojcnkpaaDoor

namespace Go.Proofs.YtnlcdfaojcnkpaaDoor
open Go.ChangeShapes Go.WideShapes Go.ChangeAt Go.RowKit
set_option linter.unusedVariables false

/-- The first k of the differences laid over a list. -/
def rmG (ls cs base : List Int) : Nat → List Int
  | 0 => base
  | k + 1 => (rmG ls cs base k).set k (it ls k - it cs k)
theorem rmG_len (ls cs base : List Int) : ∀ k, (rmG ls cs base k).length = base.length
  | 0 => rfl
  | k + 1 => by rw [rmG, List.length_set, rmG_len ls cs base k]
theorem rmG_ge (ls cs base : List Int) : ∀ k j, k ≤ j → it (rmG ls cs base k) j = it base j
  | 0, _, _ => rfl
  | k + 1, j, h => by
    rw [rmG]
    by_cases hk : k < (rmG ls cs base k).length
    · rw [it_set _ _ _ _ hk, if_neg (by omega)]
      exact rmG_ge ls cs base k j (by omega)
    · rw [List.set_eq_of_length_le (by omega)]
      exact rmG_ge ls cs base k j (by omega)
theorem rmG_full (ls cs base : List Int) (h : base.length = 5) : rmG ls cs base 5 = [it ls 0 - it cs 0, it ls 1 - it cs 1, it ls 2 - it cs 2, it ls 3 - it cs 3, it ls 4 - it cs 4] := by
  match base, h with
  | [a, b, c, d, e], _ => rfl
/-- What RoomIn answers. -/
noncomputable def rmF (x : Cd) (xs : List Im) : List Int := @ite _ (PgAsk x xs) (Classical.propDecidable _) (rmG x.lims (cntG x xs xs.length) (cntG x xs xs.length) 5) []
theorem rmF_yes {x : Cd} {xs : List Im} (h : PgAsk x xs) : rmF x xs = rmG x.lims (cntG x xs xs.length) (cntG x xs xs.length) 5 := by unfold rmF; rw [if_pos h]
theorem rmF_yes' {x : Cd} {xs : List Im} (h : PgAsk x xs) : rmF x xs = rmG x.lims (cntG x xs xs.length) (List.replicate 5 0) 5 := by rw [rmF_yes h, rmG_full _ _ _ (cntG_len _ _ _), rmG_full _ _ _ rfl]
theorem rmF_no {x : Cd} {xs : List Im} (h : ¬ PgAsk x xs) : rmF x xs = [] := by unfold rmF; rw [if_neg h]
theorem rmF_same {x : Cd} {xs ys : List Im} (h : SameS xs ys) : rmF x ys = rmF x xs := by
  by_cases k : PgAsk x xs
  · rw [rmF_yes k, rmF_yes (k.same h), h.len, cntG_same h _ (Nat.le_refl _)]
  · rw [rmF_no k, rmF_no (fun q => k (q.same h.symm))]
theorem rmF_len5 {x : Cd} {xs : List Im} (h : PgAsk x xs) : (rmF x xs).length = 5 := by rw [rmF_yes h, rmG_len, cntG_len]
theorem rmF_len (x : Cd) (xs : List Im) : (rmF x xs).length ≤ 1048576 := by
  by_cases k : PgAsk x xs
  · rw [rmF_len5 k]; decide
  · rw [rmF_no k]; decide

end Go.Proofs.YtnlcdfaojcnkpaaDoor
