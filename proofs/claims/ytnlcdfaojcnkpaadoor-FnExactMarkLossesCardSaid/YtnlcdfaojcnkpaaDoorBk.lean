/- Bases of items and lists, in plain words; what copies of a list have in common. Known lists, losses by marks, bases of families, in plain words. What names are worth, and lists that are known, as the model has them. The worth of an item, its repeats and its base, as the model has them. The base of an item in a list; the answers of the model about items and places. -/
import Derived.Test.YtnlcdfaojcnkpaaDoorBg
import Derived.Test.YtnlcdfaojcnkpaaDoorBd
import Derived.Test.YtnlcdfaojcnkpaaDoorBf
import Derived.Test.YtnlcdfaojcnkpaaDoorBe
import Derived.IntWalk
import Derived.Test.YtnlcdfaojcnkpaaDoorBb
import Derived.Deep.RegionHeld3
import Derived.Deep.QuietTactic
import Derived.BigQuiet
namespace Go.Proofs.YtnlcdfaojcnkpaaDoor
open Go.ChangeShapes Go.WideShapes Go.ChangeAt Go.RowKit
set_option linter.unusedVariables false

/-- What a base is worth with a mark; what a name is, or -1. -/
def wrtB (x : Cd) (b m : Int) : Int := if m = 1 then b * x.kee / 100 else if m = 2 then b * 9 / 10 else if m = 3 then 0 else b
noncomputable def wrtI (x : Cd) (n : ByteArray) (m : Int) : Int := if 0 ≤ fndI x.els n then wrtB x (it x.els (fndI x.els n).toNat).base m else -1
theorem wrtI_no {x : Cd} {n : ByteArray} {m : Int} (h : ¬ 0 ≤ fndI x.els n) : wrtI x n m = -1 := if_neg h
theorem wrtI_hit {x : Cd} {n : ByteArray} {m : Int} {k : Nat} (h : fndI x.els n = k) : wrtI x n m = wrtB x (it x.els k).base m := by
  unfold wrtI
  rw [if_pos (by omega), h]
  rfl
theorem wrtB_le {x : Cd} (h : CdOk x) {b : Int} (h1 : 1 ≤ b) (h2 : b ≤ 2000) (m : Int) : 0 ≤ wrtB x b m ∧ wrtB x b m ≤ 2000 := by
  have hk := h.kee
  have h3 : b * x.kee ≤ 2000 * 100 := Int.mul_le_mul h2 hk.2 (by omega) (by omega)
  have h4 : 0 ≤ b * x.kee := Int.mul_nonneg (by omega) (by omega)
  unfold wrtB
  split
  · omega
  · split
    · omega
    · split <;> omega
theorem wrtI_le {x : Cd} (h : CdOk x) (n : ByteArray) (m : Int) : -1 ≤ wrtI x n m ∧ wrtI x n m ≤ 2000 := by
  rcases fndI_cases x.els n with h1 | ⟨k, h1, h2, _⟩
  · rw [wrtI_no (by omega)]
    omega
  · rw [wrtI_hit h1]
    have := wrtB_le h (h.els.el k h2).base.1 (h.els.el k h2).base.2 m
    omega
theorem wrtI_known {x : Cd} (h : CdOk x) {n : ByteArray} (hn : Known x n) (m : Int) : 0 ≤ wrtI x n m ∧ wrtI x n m ≤ 2000 := by
  rcases fndI_cases x.els n with h1 | ⟨k, h1, h2, _⟩
  · unfold Known at hn
    omega
  · rw [wrtI_hit h1]
    exact wrtB_le h (h.els.el k h2).base.1 (h.els.el k h2).base.2 m
/-- All names of a list are known; a valid code and a valid list that it knows. -/
def Knows (x : Cd) (xs : List Im) : Prop := AllNames xs (fun _ n => Known x n)
structure BsOk (x : Cd) (xs : List Im) : Prop where
  cd : CdOk x
  list : ListOk xs
  know : Knows x xs
/-- The sum of the worths of the first k names. -/
noncomputable def sumI (x : Cd) (ns : List ByteArray) (ms : List Int) : Nat → Int
  | 0 => 0
  | k + 1 => sumI x ns ms k + wrtI x (it ns k) (it ms k)
theorem sumI_le {x : Cd} (h : CdOk x) (ns : List ByteArray) (ms : List Int) : ∀ k : Nat, -(k : Int) ≤ sumI x ns ms k ∧ sumI x ns ms k ≤ 2000 * (k : Int)
  | 0 => by simp [sumI]
  | k + 1 => by
    have h1 := sumI_le h ns ms k
    have h2 := wrtI_le h (it ns k) (it ms k)
    rw [sumI]
    omega
theorem sumI_nonneg {x : Cd} (h : CdOk x) (ns : List ByteArray) (ms : List Int) : ∀ k, (∀ j, j < k → Known x (it ns j)) → 0 ≤ sumI x ns ms k
  | 0, _ => Int.le_refl _
  | k + 1, hk => by
    have h1 := sumI_nonneg h ns ms k (fun j hj => hk j (by omega))
    have h2 := wrtI_known h (hk k (by omega)) (it ms k)
    rw [sumI]
    omega
/-- The full base of an item with given names and marks, late or not. -/
noncomputable def fulI (x : Cd) (ns : List ByteArray) (ms : List Int) (late : Bool) : Int := if late = true then (2 * (sumI x ns ms ns.length * (100 + x.bon)) + 100) / 200 else sumI x ns ms ns.length
theorem fulI_late (x : Cd) (ns : List ByteArray) (ms : List Int) : fulI x ns ms true = (2 * (sumI x ns ms ns.length * (100 + x.bon)) + 100) / 200 := if_pos rfl
theorem fulI_early (x : Cd) (ns : List ByteArray) (ms : List Int) : fulI x ns ms false = sumI x ns ms ns.length := if_neg (by simp)
theorem fulI_le {x : Cd} (h : CdOk x) (ns : List ByteArray) (ms : List Int) (late : Bool) (h3 : ns.length ≤ 3) : -4 ≤ fulI x ns ms late ∧ fulI x ns ms late ≤ 7201 := by
  have h1 := sumI_le h ns ms ns.length
  have hb := h.bon
  have e1 : sumI x ns ms ns.length * (100 + x.bon) ≤ 6000 * 120 := by
    rcases Int.le_total 0 (sumI x ns ms ns.length) with h0 | h0
    · exact Int.mul_le_mul (by omega) (by omega) (by omega) (by omega)
    · have := Int.mul_nonneg_of_nonpos_of_nonpos (a := sumI x ns ms ns.length) (b := -(100 + x.bon)) h0 (by omega)
      rw [Int.mul_neg] at this
      omega
  have e2 : -(3 * 120) ≤ sumI x ns ms ns.length * (100 + x.bon) := by
    have h5 : -3 * (100 + x.bon) ≤ sumI x ns ms ns.length * (100 + x.bon) := Int.mul_le_mul_of_nonneg_right (by omega) (by omega)
    omega
  cases late with
  | true => rw [fulI_late]; omega
  | false => rw [fulI_early]; omega
/-- How many of the first j items have the first name s and no void first mark. -/
def repI (s : ByteArray) (xs : List Im) : Nat → Nat
  | 0 => 0
  | j + 1 => if it (it xs j).ns 0 = s ∧ it (it xs j).ms 0 ≠ 3 then repI s xs j + 1 else repI s xs j
theorem repI_le (s : ByteArray) (xs : List Im) : ∀ j, repI s xs j ≤ j
  | 0 => Nat.le_refl _
  | j + 1 => by
    have := repI_le s xs j
    rw [repI]
    split <;> omega
theorem repI_yes {s : ByteArray} {xs : List Im} {j : Nat} (h : it (it xs j).ns 0 = s) (h2 : it (it xs j).ms 0 ≠ 3) : repI s xs (j + 1) = repI s xs j + 1 := by rw [repI, if_pos ⟨h, h2⟩]
theorem repI_no {s : ByteArray} {xs : List Im} {j : Nat} (h : ¬ it (it xs j).ns 0 = s) : repI s xs (j + 1) = repI s xs j := by rw [repI, if_neg (fun q => h q.1)]
theorem repI_void {s : ByteArray} {xs : List Im} {j : Nat} (h : it (it xs j).ms 0 = 3) : repI s xs (j + 1) = repI s xs j := by rw [repI, if_neg (fun q => q.2 h)]
def rptI (xs : List Im) (k : Nat) : Nat := repI (it (it xs k).ns 0) xs k
/-- The base of item k. -/
noncomputable def basI (x : Cd) (xs : List Im) (k : Nat) : Int :=
  if (rptI xs k : Int) < x.rep then fulI x (it xs k).ns (it xs k).ms (it xs k).late else if (rptI xs k : Int) = x.rep then fulI x (it xs k).ns (it xs k).ms (it xs k).late * 7 / 10 else 0
theorem basI_le {x : Cd} {xs : List Im} (h : BsOk x xs) {k : Nat} (hk : k < xs.length) : -4 ≤ basI x xs k ∧ basI x xs k ≤ 7201 := by
  have h1 := fulI_le h.cd (it xs k).ns (it xs k).ms (it xs k).late (h.list.each k hk).hi
  unfold basI
  split
  · exact h1
  · split <;> omega
noncomputable def basTo (x : Cd) (xs : List Im) : Nat → List Int
  | 0 => []
  | k + 1 => basTo x xs k ++ [basI x xs k]
theorem basTo_len (x : Cd) (xs : List Im) : ∀ k, (basTo x xs k).length = k
  | 0 => rfl
  | k + 1 => by rw [basTo, List.length_append, basTo_len x xs k]; rfl
/-- What copies have in common. -/
theorem sumI_congr (x : Cd) {ns ns' : List ByteArray} {ms ms' : List Int} (h1 : ns = ns') (h2 : ms = ms') (k : Nat) : sumI x ns ms k = sumI x ns' ms' k := by rw [h1, h2]
theorem knows_same {x : Cd} {xs ys : List Im} (h : SameS xs ys) (k : Knows x xs) : Knows x ys := fun i hi j hj => by
  have e := h.each i (by have := h.len; omega)
  rw [e.ns] at hj ⊢
  exact k i (by have := h.len; omega) j hj
theorem listOk_of' {xs ys : List Im} (h : SameS xs ys) (k : ListOk xs) : ListOk ys := ⟨by rw [h.len]; exact k.len, fun i hi => by
  have e := h.each i (by have := h.len; omega)
  rw [e.ns, e.ms]
  exact k.each i (by have := h.len; omega)⟩
theorem bsOk_same {x : Cd} {xs ys : List Im} (h : SameS xs ys) : BsOk x xs ↔ BsOk x ys :=
  ⟨fun q => ⟨q.cd, listOk_of' h q.list, knows_same h q.know⟩, fun q => ⟨q.cd, listOk_of' h.symm q.list, knows_same h.symm q.know⟩⟩
theorem repI_same {xs ys : List Im} (h : SameS xs ys) (s : ByteArray) : ∀ j, j ≤ xs.length → repI s xs j = repI s ys j
  | 0, _ => rfl
  | j + 1, hj => by
    have e := h.each j (by omega)
    rw [repI, repI, repI_same h s j (by omega), e.ns, e.ms]
theorem rptI_same {xs ys : List Im} (h : SameS xs ys) {k : Nat} (hk : k < xs.length) : rptI xs k = rptI ys k := by
  unfold rptI
  rw [repI_same h _ k (by omega), (h.each k hk).ns]
theorem basI_same {x : Cd} {xs ys : List Im} (h : SameS xs ys) {k : Nat} (hk : k < xs.length) : basI x xs k = basI x ys k := by
  have e := h.each k hk
  unfold basI
  rw [rptI_same h hk, e.ns, e.ms, e.late]
theorem basTo_same {x : Cd} {xs ys : List Im} (h : SameS xs ys) : ∀ k, k ≤ xs.length → basTo x xs k = basTo x ys k
  | 0, _ => rfl
  | k + 1, hk => by rw [basTo, basTo, basTo_same h k (by omega), basI_same h (by omega)]
/-- An answer that is a number and true, or 0 and false. -/
noncomputable def ansV (p : Prop) (v : Int) : Value := @ite _ p (Classical.propDecidable _) (.tuple #[.int .i64 v, .bool true]) (.tuple #[.int .i64 0, .bool false])
theorem ansV_yes {p : Prop} {v : Int} (h : p) : ansV p v = .tuple #[.int .i64 v, .bool true] := by unfold ansV; exact @if_pos _ (Classical.propDecidable _) h _ _ _
theorem ansV_no {p : Prop} {v : Int} (h : ¬ p) : ansV p v = .tuple #[.int .i64 0, .bool false] := by unfold ansV; exact @if_neg _ (Classical.propDecidable _) h _ _ _
theorem ansV_form (p : Prop) (v : Int) : ∃ (a : Int) (b : Bool), ansV p v = .tuple #[.int .i64 a, .bool b] := by
  by_cases h : p
  · exact ⟨_, true, ansV_yes h⟩
  · exact ⟨0, false, ansV_no h⟩
theorem ansV_congr {p q : Prop} {v u : Int} (h : p ↔ q) (e : p → v = u) : ansV p v = ansV q u := by
  by_cases hp : p
  · rw [ansV_yes hp, ansV_yes (h.1 hp), e hp]
  · rw [ansV_no hp, ansV_no (fun q => hp (h.2 q))]
structure EwOk (x : Cd) (n : ByteArray) (m : Int) : Prop where
  cd : CdOk x
  lo : 0 ≤ m
  hi : m ≤ 3
  know : Known x n
noncomputable def ewV (x : Cd) (n : ByteArray) (m : Int) : Value := ansV (EwOk x n m) (wrtI x n m)
/-- An item alone. -/
theorem same_one {y z : Im} (h : Same y z) : SameS [y] [z] := ⟨rfl, fun i hi => by
  obtain rfl : i = 0 := by
    have : i < 1 := hi
    omega
  exact h⟩
noncomputable def ifV (x : Cd) (y : Im) : Value := ansV (BsOk x [y]) (famI x (it y.ns 0))
noncomputable def fbV (x : Cd) (y : Im) : Value := ansV (BsOk x [y]) (fulI x y.ns y.ms y.late)
theorem ifV_same {x : Cd} {y z : Im} (h : Same y z) : ifV x y = ifV x z := ansV_congr (bsOk_same (same_one h)) (fun _ => by rw [h.ns])
theorem fbV_same {x : Cd} {y z : Im} (h : Same y z) : fbV x y = fbV x z := ansV_congr (bsOk_same (same_one h)) (fun _ => by rw [h.ns, h.ms, h.late])
/-- A place of a known list. -/
structure BsAt (x : Cd) (xs : List Im) (k : Int) : Prop where
  ok : BsOk x xs
  lo : 0 ≤ k
  hi : k < xs.length
theorem bsAt_same {x : Cd} {xs ys : List Im} (h : SameS xs ys) (k : Int) : BsAt x xs k ↔ BsAt x ys k :=
  ⟨fun q => ⟨(bsOk_same h).1 q.ok, q.lo, by rw [h.len]; exact q.hi⟩, fun q => ⟨(bsOk_same h).2 q.ok, q.lo, by rw [← h.len]; exact q.hi⟩⟩
noncomputable def rpV (x : Cd) (xs : List Im) (k : Int) : Value := ansV (BsAt x xs k) (rptI xs k.toNat : Nat)
noncomputable def ibV (x : Cd) (xs : List Im) (k : Int) : Value := ansV (BsAt x xs k) (basI x xs k.toNat)
noncomputable def lgV (x : Cd) (xs : List Im) (k : Int) : Value := ansV (BsAt x xs k) (fulI x (it xs k.toNat).ns (it xs k.toNat).ms true - fulI x (it xs k.toNat).ns (it xs k.toNat).ms false)
theorem rpV_same {x : Cd} {xs ys : List Im} (h : SameS xs ys) (k : Int) : rpV x xs k = rpV x ys k := ansV_congr (bsAt_same h k) (fun q => by rw [rptI_same h (by have := q.lo; have := q.hi; omega)])
theorem ibV_same {x : Cd} {xs ys : List Im} (h : SameS xs ys) (k : Int) : ibV x xs k = ibV x ys k := ansV_congr (bsAt_same h k) (fun q => basI_same h (by have := q.lo; have := q.hi; omega))
theorem lgV_same {x : Cd} {xs ys : List Im} (h : SameS xs ys) (k : Int) : lgV x xs k = lgV x ys k := ansV_congr (bsAt_same h k) (fun q => by
  have e := h.each k.toNat (by have := q.lo; have := q.hi; omega)
  rw [e.ns, e.ms])
noncomputable def sumB (l : List Int) : Nat → Int
  | 0 => 0
  | k + 1 => sumB l k + it l k
noncomputable def pbV (x : Cd) (xs : List Im) : Value := ansV (BsOk x xs) (sumB (basTo x xs xs.length) xs.length)
theorem pbV_same {x : Cd} {xs ys : List Im} (h : SameS xs ys) : pbV x xs = pbV x ys := ansV_congr (bsOk_same h) (fun _ => by rw [basTo_same h _ (Nat.le_refl _), h.len])
/-- The bases of all items of a known list. -/
noncomputable def bvF (x : Cd) (xs : List Im) : List Int := @ite _ (BsOk x xs) (Classical.propDecidable _) (basTo x xs xs.length) []
theorem bvF_yes {x : Cd} {xs : List Im} (h : BsOk x xs) : bvF x xs = basTo x xs xs.length := by unfold bvF; exact @if_pos _ (Classical.propDecidable _) h _ _ _
theorem bvF_no {x : Cd} {xs : List Im} (h : ¬ BsOk x xs) : bvF x xs = [] := by unfold bvF; exact @if_neg _ (Classical.propDecidable _) h _ _ _
theorem bvF_same {x : Cd} {xs ys : List Im} (h : SameS xs ys) : bvF x xs = bvF x ys := by
  by_cases hx : BsOk x xs
  · rw [bvF_yes hx, bvF_yes ((bsOk_same h).1 hx), basTo_same h _ (Nat.le_refl _), h.len]
  · rw [bvF_no hx, bvF_no (fun q => hx ((bsOk_same h).2 q))]
theorem bvF_len (x : Cd) (xs : List Im) : (bvF x xs).length ≤ 1048576 := by
  by_cases hx : BsOk x xs
  · rw [bvF_yes hx, basTo_len]
    have := hx.list.len
    omega
  · rw [bvF_no hx]
    decide
end Go.Proofs.YtnlcdfaojcnkpaaDoor

namespace Go.Proofs.YtnlcdfaojcnkpaaDoor
open Go.ChangeShapes Go.WideShapes Go.ChangeAt Go.RowKit
set_option linter.unusedVariables false

theorem bsQ_same {x : Cd} {xs ys : List Im} (h : SameS xs ys) : pB (BsOk x xs) = pB (BsOk x ys) := pB_iff (bsOk_same h)
theorem ifV_form (x : Cd) (y : Im) : ∃ (a : Int) (b : Bool), ifV x y = .tuple #[.int .i64 a, .bool b] := ansV_form _ _
theorem fbV_form (x : Cd) (y : Im) : ∃ (a : Int) (b : Bool), fbV x y = .tuple #[.int .i64 a, .bool b] := ansV_form _ _
theorem rpV_form (x : Cd) (xs : List Im) (k : Int) : ∃ (a : Int) (b : Bool), rpV x xs k = .tuple #[.int .i64 a, .bool b] := ansV_form _ _
theorem ibV_form (x : Cd) (xs : List Im) (k : Int) : ∃ (a : Int) (b : Bool), ibV x xs k = .tuple #[.int .i64 a, .bool b] := ansV_form _ _
theorem lgV_form (x : Cd) (xs : List Im) (k : Int) : ∃ (a : Int) (b : Bool), lgV x xs k = .tuple #[.int .i64 a, .bool b] := ansV_form _ _
theorem pbV_form (x : Cd) (xs : List Im) : ∃ (a : Int) (b : Bool), pbV x xs = .tuple #[.int .i64 a, .bool b] := ansV_form _ _
noncomputable def kiV (x : Cd) (xs : List Im) : Value := .tuple #[.bool (pB (BsOk x xs)), .bool (pB (PgAsk x xs))]
theorem kiV_form (x : Cd) (xs : List Im) : ∃ p q : Bool, kiV x xs = .tuple #[.bool p, .bool q] := ⟨_, _, rfl⟩
theorem kiV_no {x : Cd} {xs : List Im} (h : ¬ PgAsk x xs) : kiV x xs = .tuple #[.bool false, .bool false] := by
  unfold kiV
  rw [pB_no h, pB_no (fun q : BsOk x xs => h ⟨q.cd, q.list⟩)]
theorem kiV_yes {x : Cd} {xs : List Im} (h : PgAsk x xs) : kiV x xs = .tuple #[.bool (pB (Knows x xs)), .bool true] := by
  unfold kiV
  rw [pB_yes h, pB_iff (show BsOk x xs ↔ Knows x xs from ⟨fun q => q.know, fun q => ⟨h.cd, h.ls, q⟩⟩)]
theorem kiV_same {x : Cd} {xs ys : List Im} (h : SameS xs ys) : kiV x xs = kiV x ys := by
  unfold kiV
  rw [pB_iff (bsOk_same (x := x) h), pgAsk_same h.symm]
/-- The losses of the first k items by their marks. -/
noncomputable def mlTo (x : Cd) (xs : List Im) : Nat → List Int
  | 0 => []
  | k + 1 => mlTo x xs k ++ [basI x (xs.map clnIm) k - basI x xs k]
theorem mlTo_len (x : Cd) (xs : List Im) : ∀ k, (mlTo x xs k).length = k
  | 0 => rfl
  | k + 1 => by rw [mlTo, List.length_append, mlTo_len x xs k]; rfl
theorem cln_same {xs ys : List Im} (h : SameS xs ys) : SameS (xs.map clnIm) (ys.map clnIm) := ⟨by rw [List.length_map, List.length_map, h.len], fun i hi => by
  rw [List.length_map] at hi
  have e := h.each i hi
  have hl := h.len
  rw [cln_it xs i (by omega), cln_it ys i (by omega)]
  exact ⟨e.ns, by unfold clnIm; rw [e.ns], e.late⟩⟩
theorem mlTo_same {x : Cd} {xs ys : List Im} (h : SameS xs ys) : ∀ k, k ≤ xs.length → mlTo x xs k = mlTo x ys k
  | 0, _ => rfl
  | k + 1, hk => by rw [mlTo, mlTo, mlTo_same h k (by omega), basI_same h (by omega), basI_same (cln_same h) (by rw [List.length_map]; omega)]
noncomputable def blF (x : Cd) (xs : List Im) : List Int := @ite _ (BsOk x xs) (Classical.propDecidable _) (mlTo x xs xs.length) []
theorem blF_yes {x : Cd} {xs : List Im} (h : BsOk x xs) : blF x xs = mlTo x xs xs.length := by unfold blF; exact @if_pos _ (Classical.propDecidable _) h _ _ _
theorem blF_no {x : Cd} {xs : List Im} (h : ¬ BsOk x xs) : blF x xs = [] := by unfold blF; exact @if_neg _ (Classical.propDecidable _) h _ _ _
theorem blF_same {x : Cd} {xs ys : List Im} (h : SameS xs ys) : blF x xs = blF x ys := by
  by_cases hx : BsOk x xs
  · rw [blF_yes hx, blF_yes ((bsOk_same h).1 hx), mlTo_same h _ (Nat.le_refl _), h.len]
  · rw [blF_no hx, blF_no (fun q => hx ((bsOk_same h).2 q))]
theorem blF_len (x : Cd) (xs : List Im) : (blF x xs).length ≤ 1048576 := by
  by_cases hx : BsOk x xs
  · rw [blF_yes hx, mlTo_len]
    have := hx.list.len
    omega
  · rw [blF_no hx]
    decide
/-- The bases of the families of the first k items. -/
def addAt (l : List Int) (n : Nat) (v : Int) : List Int := l.set n (it l n + v)
theorem addAt_len (l : List Int) (n : Nat) (v : Int) : (addAt l n v).length = l.length := by simp [addAt]
noncomputable def fmTo (x : Cd) (xs : List Im) : Nat → List Int
  | 0 => List.replicate 5 0
  | k + 1 => addAt (fmTo x xs k) (famI x (nam0 xs k)).toNat (basI x xs k)
theorem fmTo_len (x : Cd) (xs : List Im) : ∀ k, (fmTo x xs k).length = 5
  | 0 => rfl
  | k + 1 => by rw [fmTo, addAt_len, fmTo_len x xs k]
theorem fmTo_same {x : Cd} {xs ys : List Im} (h : SameS xs ys) : ∀ k, k ≤ xs.length → fmTo x xs k = fmTo x ys k
  | 0, _ => rfl
  | k + 1, hk => by
    have e := h.each k (by omega)
    rw [fmTo, fmTo, fmTo_same h k (by omega), basI_same h (by omega)]
    unfold nam0
    rw [e.ns]
noncomputable def fmF (x : Cd) (xs : List Im) : List Int := @ite _ (BsOk x xs) (Classical.propDecidable _) (fmTo x xs xs.length) []
theorem fmF_yes {x : Cd} {xs : List Im} (h : BsOk x xs) : fmF x xs = fmTo x xs xs.length := by unfold fmF; exact @if_pos _ (Classical.propDecidable _) h _ _ _
theorem fmF_no {x : Cd} {xs : List Im} (h : ¬ BsOk x xs) : fmF x xs = [] := by unfold fmF; exact @if_neg _ (Classical.propDecidable _) h _ _ _
theorem fmF_same {x : Cd} {xs ys : List Im} (h : SameS xs ys) : fmF x xs = fmF x ys := by
  by_cases hx : BsOk x xs
  · rw [fmF_yes hx, fmF_yes ((bsOk_same h).1 hx), fmTo_same h _ (Nat.le_refl _), h.len]
  · rw [fmF_no hx, fmF_no (fun q => hx ((bsOk_same h).2 q))]
theorem fmF_len (x : Cd) (xs : List Im) : (fmF x xs).length ≤ 1048576 := by
  by_cases hx : BsOk x xs
  · rw [fmF_yes hx, fmTo_len]
    decide
  · rw [fmF_no hx]
    decide
end Go.Proofs.YtnlcdfaojcnkpaaDoor

namespace Go.Proofs.YtnlcdfaojcnkpaaDoor
open Go.ChangeShapes Go.WideShapes Go.ChangeAt Go.RowKit
set_option linter.unusedVariables false

set_option maxHeartbeats 1000000 in
theorem bsWorth_any (A L : Option Addr) (c d : Nat) (x : Cd) (n : ByteArray) (m : Int) (w : World) (hr : CdAt w A L x) (hok : CdOk x) :
    Calls Tryd.prog 125 #[x.val A c L d, .string n, .int .i64 m] w fun e w' => e = .returned (.int .i64 (wrtI x n m)) ∧ Below w.heap.size w w' := by
  obtain ⟨W, hW, hB⟩ := boxed 31 w A c L d x
  have HB := Lib.hid hB.below
  have HX := Lib.hid hB.at_
  have HR := Lib.hid (hr.below hB.below)
  have HF := Lib.hid (fndI_first x.els n)
  have HC := Lib.hid (fndI_cases x.els n)
  have HL := Lib.hid (Cd.fit hok)
  have HK := Lib.hid hok
  clear hr hB hok
  unfold boxCd at hW
  unfold Cd.val
  go_enter Tryd.func125, Tryd.ntmps125
  go_wp2_with fail
  rw [← hW]
  clear hW
  refine (cdFind_any A L c d x n _ W HR.out HL.out HF.out).mono ?_
  rintro e w2 ⟨rfl, hb⟩
  have HE := Lib.hid hb
  clear hb
  rcases HC.out with h | ⟨k, h1, h2, h3⟩
  · rw [h]
    have HV := Lib.hid (wrtI_no (x := x) (n := n) (m := m) (by omega))
    clear h
    go_wp2
    go_ret
    exact ⟨by rw [HV.out]; rfl, Below_next HB.out HE.out⟩
  · have HV := Lib.hid (wrtI_hit (x := x) (n := n) (m := m) h1)
    rw [h1]
    obtain ⟨e, o', rfl, hel, hc⟩ := el1 (HR.out.below HE.out).els k h2
    obtain ⟨g0, g1, g2, g3⟩ := hc
    obtain ⟨x0, x1, x2, x3, x4, x5⟩ := (HX.out.next HE.out).box
    have hkl := HL.out.1.1
    have hbs := (HK.out.els.el k h2).base
    have hkk := HK.out.kee
    have hm1 : 0 ≤ (it x.els k).base * x.kee := Int.mul_nonneg (by omega) (by omega)
    have hm2 : (it x.els k).base * x.kee ≤ 2000 * 100 := Int.mul_le_mul hbs.2 hkk.2 (by omega) (by omega)
    have m4 : IntKind.i64.wrap ((it x.els k).base * x.kee) = (it x.els k).base * x.kee := IntWalk.i64_in _ (by omega)
    have m5 : ((it x.els k).base * x.kee).tdiv 100 = (it x.els k).base * x.kee / 100 := Int.tdiv_eq_ediv_of_nonneg hm1
    have m6 : ((it x.els k).base * 9).tdiv 10 = (it x.els k).base * 9 / 10 := Int.tdiv_eq_ediv_of_nonneg (by omega)
    have m7 : IntKind.i64.wrap ((it x.els k).base * x.kee / 100) = (it x.els k).base * x.kee / 100 := IntWalk.i64_in _ (by omega)
    have m8 : IntKind.i64.wrap ((it x.els k).base * 9 / 10) = (it x.els k).base * 9 / 10 := IntWalk.i64_in _ (by omega)
    obtain ⟨hb1, hb2⟩ := hbs
    clear h1 hel h3 hkk
    by_cases e1 : m = 1
    · have HW := Lib.hid (show wrtB x (it x.els k).base m = (it x.els k).base * x.kee / 100 from by unfold wrtB; rw [if_pos e1])
      subst e1
      go_wp2
      go_ret
      exact ⟨by rw [HV.out, HW.out]; rfl, Below_next HB.out HE.out⟩
    by_cases e2 : m = 2
    · have HW := Lib.hid (show wrtB x (it x.els k).base m = (it x.els k).base * 9 / 10 from by unfold wrtB; rw [if_neg e1, if_pos e2])
      subst e2
      go_wp2
      go_ret
      exact ⟨by rw [HV.out, HW.out]; rfl, Below_next HB.out HE.out⟩
    by_cases e3 : m = 3
    · have HW := Lib.hid (show wrtB x (it x.els k).base m = 0 from by unfold wrtB; rw [if_neg e1, if_neg e2, if_pos e3])
      subst e3
      go_wp2
      go_ret
      exact ⟨by rw [HV.out, HW.out]; rfl, Below_next HB.out HE.out⟩
    · have HW := Lib.hid (show wrtB x (it x.els k).base m = (it x.els k).base from by unfold wrtB; rw [if_neg e1, if_neg e2, if_neg e3])
      have f1 : (m == 1) = false := by simp; exact e1
      have f2 : (m == 2) = false := by simp; exact e2
      have f3 : (m == 3) = false := by simp; exact e3
      clear e1 e2 e3
      go_wp2
      go_ret
      exact ⟨by rw [HV.out, HW.out]; rfl, Below_next HB.out HE.out⟩

set_option maxHeartbeats 1000000 in
theorem bsKnows_any (A L : Option Addr) (c d : Nat) (x : Cd) (P : Option Addr) (c1 : Nat) (xs : List Im) (w : World) (hr : CdAt w A L x) (hl : CdFits x) (hp : Ims w w.heap.size P xs) (hok : ListOk xs) :
    Calls Tryd.prog 78 #[x.val A c L d, .slice P xs.length c1] w fun e w' => e = .returned (.bool (pB (Knows x xs))) ∧ Below w.heap.size w w' := by
  obtain ⟨W, hW, hB⟩ := boxed 31 w A c L d x
  have HB := Lib.hid hB.below
  have HX := Lib.hid hB.at_
  have HR := Lib.hid (hr.below hB.below)
  have HP := Lib.hid (hp.next hB.below)
  have HK := Lib.hid hok
  have HL := Lib.hid hl
  have h14 := hok.len
  clear hr hp hB hok hl
  unfold boxCd at hW
  unfold Cd.val
  go_enter Tryd.func78, Tryd.ntmps78
  go_wp2_with fail
  rw [← hW]
  clear hW
  go_loopw [11] (fun i wr => ∃ k : Nat, k ≤ xs.length ∧ i = .int .i64 k ∧ Hid (∀ i, i < k → ∀ j, j < (it xs i).ns.length → Known x (it (it xs i).ns j)) ∧ Hid (Below W.heap.size W wr)) (fun i _ => xs.length - (intOf i).toNat)
  case atStart => exact ⟨0, Nat.zero_le _, rfl, Lib.hid all_zero, Lib.hid (Below.refl _ _)⟩
  case round =>
    obtain ⟨k, hk, rfl, HI, HBR⟩ := hrel
    by_cases hlt : k < xs.length
    · obtain ⟨b, o, rfl, hbl, hc⟩ := HP.out.out.im (by omega)
      obtain ⟨c0, c1, c2⟩ := (hc k hlt).below HBR.out hbl
      have hn1 := (HK.out.each k hlt).lo
      have hn3 := (HK.out.each k hlt).hi
      obtain ⟨b', o', hA', hbl', hc'⟩ := (HP.out.each k hlt).ns.str hn1
      rw [hA'] at c0
      have HM := Lib.hid hc'
      clear hc hc' hA'
      go_wp2_with fail
      clear c0 c1 c2
      generalize hw3 : World.alloc wr _ = w3
      have hb3 : Below wr.heap.size wr w3 := by
        rw [← hw3]
        exact below_alloc _ _
      have HB3 := Lib.hid (Below_next HBR.out hb3)
      clear hw3 hb3
      go_loopw [18] (fun i ws => ∃ j : Nat, j ≤ (it xs k).ns.length ∧ i = .int .i64 j ∧ Hid (∀ i, i < j → Known x (it (it xs k).ns i)) ∧ Hid (Below w3.heap.size w3 ws)) (fun i _ => (it xs k).ns.length - (intOf i).toNat)
      case atStart => exact ⟨0, Nat.zero_le _, rfl, Lib.hid all_zero, Lib.hid (Below.refl _ _)⟩
      case round =>
        obtain ⟨j, hj, rfl, HJ, HBS⟩ := hrel
        have HBW := Lib.hid (Below_next HB3.out HBS.out)
        by_cases hjl : j < (it xs k).ns.length
        · have hv := (HBW.out.cell (p := ⟨b', o' + j, none⟩) hbl').trans (HM.out j hjl)
          obtain ⟨x0, x1, x2, x3, x4, x5⟩ := (HX.out.next HBW.out).box
          have HF := Lib.hid (fndI_first x.els (it (it xs k).ns j))
          go_wp2_with fail
          clear x0 x1 x2 x3 x4 x5 hv
          refine (cdFind_any A L c d x (it (it xs k).ns j) _ _ (HR.out.below HBW.out) HL.out HF.out).mono ?_
          rintro e w4 ⟨rfl, hb4⟩
          have HB4 := Lib.hid (Below_next HBS.out hb4)
          clear hb4 HF
          by_cases hq : 0 ≤ fndI x.els (it (it xs k).ns j)
          · have HQ := Lib.hid (all_next (Q := fun i => Known x (it (it xs k).ns i)) HJ.out hq)
            go_wp2
            go_roundw
            case rel => exact ⟨j + 1, by omega, by go_num, HQ, HB4⟩
            case measure => simp [intOf]; omega
          · have HV := Lib.hid (pB_no (fun hh : Knows x xs => hq (hh k hlt j hjl)))
            have hq' : fndI x.els (it (it xs k).ns j) < 0 := by omega
            clear hq
            go_wp2
            go_ret
            exact ⟨by rw [HV.out]; rfl, Below_next HB.out (Below_next HB3.out HB4.out)⟩
        · obtain rfl : j = (it xs k).ns.length := by omega
          have HQ := Lib.hid (all_next (Q := fun i => ∀ j, j < (it xs i).ns.length → Known x (it (it xs i).ns j)) HI.out HJ.out)
          go_wp2
          go_roundw
          case rel => exact ⟨k + 1, by omega, by go_num, HQ, HBW⟩
          case measure => simp [intOf]; omega
    · obtain rfl : k = xs.length := by omega
      have HV := Lib.hid (pB_yes (show Knows x xs from HI.out))
      go_wp2
      go_ret
      exact ⟨by rw [HV.out]; rfl, Below_next HB.out HBR.out⟩

set_option maxHeartbeats 1000000 in
theorem bsGood_any (A L : Option Addr) (c d : Nat) (x : Cd) (P : Option Addr) (c1 : Nat) (xs : List Im) (w : World) (hr : CdAt w A L x) (hl : CdFits x) (hp : Ims w w.heap.size P xs) (hq : ImsFits xs) :
    Calls Tryd.prog 46 #[x.val A c L d, .slice P xs.length c1] w fun e w' => e = .returned (.bool (pB (BsOk x xs))) ∧ Below w.heap.size w w' := by
  obtain ⟨W, hW, hB⟩ := boxed 31 w A c L d x
  have HB := Lib.hid hB.below
  have HX := Lib.hid hB.at_
  have HR := Lib.hid (hr.below hB.below)
  have HP := Lib.hid (hp.next hB.below)
  have HQ := Lib.hid hq
  have HL := Lib.hid hl
  clear hr hp hB hq hl
  unfold boxCd at hW
  unfold Cd.val
  go_enter Tryd.func46, Tryd.ntmps46
  go_wp2_with fail
  rw [← hW]
  clear hW
  refine (cdGood_any A L c d x W HR.out HL.out).mono ?_
  rintro e w1 ⟨he, hb1⟩
  have HB1 := Lib.hid hb1
  clear hb1
  by_cases h1 : CdOk x
  rotate_left
  · rw [pB_no h1] at he
    subst he
    have HV := Lib.hid (pB_no (fun q : BsOk x xs => h1 q.cd))
    clear h1
    go_wp2
    go_ret
    exact ⟨by rw [HV.out]; rfl, Below_next HB.out HB1.out⟩
  rw [pB_yes h1] at he
  subst he
  go_wp2_with fail
  refine (itList_any P c1 xs w1 (HP.out.next HB1.out) HQ.out).mono ?_
  rintro e w2 ⟨he, hb2⟩
  have HB2 := Lib.hid (Below_next HB1.out hb2)
  clear hb2
  by_cases h2 : ListOk xs
  rotate_left
  · rw [pB_no h2] at he
    subst he
    have HV := Lib.hid (pB_no (fun q : BsOk x xs => h2 q.list))
    clear h1 h2
    go_wp2
    go_ret
    exact ⟨by rw [HV.out]; rfl, Below_next HB.out HB2.out⟩
  rw [pB_yes h2] at he
  subst he
  obtain ⟨x0, x1, x2, x3, x4, x5⟩ := (HX.out.next HB2.out).box
  go_wp2_with fail
  clear x0 x1 x2 x3 x4 x5
  refine (bsKnows_any A L c d x P c1 xs w2 (HR.out.below HB2.out) HL.out (HP.out.next HB2.out) h2).mono ?_
  rintro e w3 ⟨rfl, hb3⟩
  have HB3 := Lib.hid (Below_next HB2.out hb3)
  have HV := Lib.hid (pB_iff (show BsOk x xs ↔ Knows x xs from ⟨fun q => q.know, fun q => ⟨h1, h2, q⟩⟩))
  clear hb3 h1 h2
  go_wp2
  go_ret
  exact ⟨by rw [HV.out]; rfl, Below_next HB.out HB3.out⟩
end Go.Proofs.YtnlcdfaojcnkpaaDoor

namespace Go.Proofs.YtnlcdfaojcnkpaaDoor
open Go.ChangeShapes Go.WideShapes Go.ChangeAt Go.RowKit
set_option linter.unusedVariables false

theorem bs_floor_neg {a b : Int} (hb : 1 ≤ b) (h : a.tmod b < 0) : a.tdiv b - 1 = a / b := by
  have hr := Int.mul_tdiv_add_tmod a b
  have h1 := Int.lt_tmod_of_pos a (show 0 < b by omega)
  have := (Int.ediv_emod_unique (a := a) (b := b) (r := a.tmod b + b) (q := a.tdiv b - 1) (by omega)).2 ⟨by rw [Int.mul_sub]; omega, by omega, by omega⟩
  omega
theorem bs_floor_pos {a b : Int} (hb : 1 ≤ b) (h : 0 ≤ a.tmod b) : a.tdiv b = a / b := by
  have hr := Int.mul_tdiv_add_tmod a b
  have h1 := Int.tmod_lt_of_pos a (show 0 < b by omega)
  have := (Int.ediv_emod_unique (a := a) (b := b) (r := a.tmod b) (q := a.tdiv b) (by omega)).2 ⟨by omega, by omega, by omega⟩
  omega
theorem bs_tdiv (a b : Int) : (a.tdiv b).natAbs ≤ a.natAbs := by
  rw [Int.natAbs_tdiv]; exact Nat.div_le_self _ _
theorem bsDown_any (a b : Int) (w : World) (ha1 : -10000000000000 ≤ a) (ha2 : a ≤ 10000000000000) (hb : 1 ≤ b) :
    Calls Tryd.prog 146 #[.int .i64 a, .int .i64 b] w fun e w' => e = .returned (.int .i64 (a / b)) ∧ w = w' := by
  have hq := bs_tdiv a b
  by_cases h : a.tmod b < 0
  · have h2 : -1 + a.tdiv b ≤ 10000000000000 := by omega
    go_enter Tryd.func146, Tryd.ntmps146
    go_wp2
    go_ret
    exact ⟨by rw [← bs_floor_neg hb h]; rfl, rfl⟩
  · go_enter Tryd.func146, Tryd.ntmps146
    go_wp2
    go_ret
    exact ⟨by rw [← bs_floor_pos hb (by omega)]; rfl, rfl⟩
theorem bsRound_any (a b : Int) (w : World) (ha1 : -100000000000 ≤ a) (ha2 : a ≤ 100000000000) (hb : 1 ≤ b) (hb2 : b ≤ 1000000) :
    Calls Tryd.prog 126 #[.int .i64 a, .int .i64 b] w fun e w' => e = .returned (.int .i64 ((2 * a + b) / (2 * b))) ∧ w = w' := by
  go_enter Tryd.func126, Tryd.ntmps126
  go_wp2_with (go_at_call 146; refine (bsDown_any _ _ _ (by omega) (by omega) (by omega)).mono ?_; rintro e w' ⟨rfl, rfl⟩)
  go_ret
  exact ⟨rfl, rfl⟩

set_option maxHeartbeats 1000000 in
theorem bsFull_f (A L : Option Addr) (c d : Nat) (x : Cd) (YA : Option Addr) (yc : Nat) (YL : Option Addr) (yd : Nat) (ns : List ByteArray) (ms : List Int) (lt : Bool) (w : World) (hr : CdAt w A L x) (hok : CdOk x) (hy : ImIn w w.heap.size ⟨YA, yc, YL, yd, ns, ms, lt⟩) (hi : ItOk ns ms) :
    Calls Tryd.prog 103 #[x.val A c L d, .agg #[.slice YA ns.length yc, .slice YL ms.length yd, .bool lt]] w fun e w' => e = .returned (.int .i64 (fulI x ns ms lt)) ∧ Below w.heap.size w w' := by
  obtain ⟨V, W, hV, hW, hb, hX, hY, hs⟩ := boxed2 31 76 w A c L d x ⟨YA, yc, YL, yd, ns, ms, lt⟩
  have HB := Lib.hid hb
  have HH := Lib.hid (fun (w' : World) (k : Below W.heap.size W w') => show w'.cell? ⟨w.heap.size, 0, none⟩ = some (.slice A x.els.length c) ∧ w'.cell? ⟨w.heap.size, 1, none⟩ = some (.slice L x.lims.length d) ∧ w'.cell? ⟨w.heap.size, 2, none⟩ = some (.int .i64 x.rep) ∧ w'.cell? ⟨w.heap.size, 3, none⟩ = some (.int .i64 x.bon) ∧ w'.cell? ⟨w.heap.size, 4, none⟩ = some (.int .i64 x.kee) ∧ w'.cell? ⟨w.heap.size, 5, none⟩ = some (.int .i64 x.fal) ∧ w'.cell? ⟨w.heap.size + 1, 0, none⟩ = some (.slice YA ns.length yc) ∧ w'.cell? ⟨w.heap.size + 1, 1, none⟩ = some (.slice YL ms.length yd) ∧ w'.cell? ⟨w.heap.size + 1, 2, none⟩ = some (.bool lt) from two_boxes hX hY k)
  have HR := Lib.hid (hr.below hb)
  have HI := Lib.hid (hy.next hb)
  have HK := Lib.hid hok
  have HS := Lib.hid (fun k => sumI_le hok ns ms k)
  have hn3 := hi.hi
  have hn1 := hi.lo
  have HEQ := Lib.hid hi.eq
  have hbn := hok.bon
  have HIN := Lib.hid (show Lst W W.heap.size YA ns from HI.out.ns)
  have HIM := Lib.hid (show Lst W W.heap.size YL ms from HI.out.ms)
  obtain ⟨b, o, rfl, hbl, hc⟩ := HIN.out.str hn1
  obtain ⟨b2, o2, rfl, hbl2, hc2⟩ := HIM.out.int (show 0 < ms.length by have := HEQ.out; omega)
  have HN := Lib.hid hc
  have HM := Lib.hid hc2
  clear hr hok hy hi hb hX hY hs hc hc2
  unfold boxCd at hV
  unfold boxIm at hW
  dsimp only at hW
  unfold Cd.val
  go_enter Tryd.func103, Tryd.ntmps103
  go_wp2_with fail
  rw [← hV, ← hW]
  clear hV hW
  obtain ⟨x0, x1, x2, x3, x4, x5, y0, y1, y2⟩ := HH.out W (Below.refl _ _)
  go_wp2_with fail
  clear x0 x1 x2 x3 x4 x5 y0 y1 y2
  go_loopw [5, 11] (fun s i wr => ∃ k : Nat, k ≤ ns.length ∧ i = .int .i64 k ∧ s = .int .i64 (sumI x ns ms k) ∧ Hid (Below W.heap.size W wr)) (fun _ i _ => ns.length - (intOf i).toNat)
  case atStart => exact ⟨0, Nat.zero_le _, rfl, rfl, Lib.hid (Below.refl _ _)⟩
  case round =>
    obtain ⟨k, hk, rfl, rfl, HBR⟩ := hrel
    by_cases hlt : k < ns.length
    · have hv := (HBR.out.cell (p := ⟨b, o + k, none⟩) hbl).trans (HN.out k hlt)
      have HG := Lib.hid (fun (w' : World) (h : Below wr.heap.size wr w') => show w'.cell? ⟨w.heap.size, 0, none⟩ = some (.slice A x.els.length c) ∧ w'.cell? ⟨w.heap.size, 1, none⟩ = some (.slice L x.lims.length d) ∧ w'.cell? ⟨w.heap.size, 2, none⟩ = some (.int .i64 x.rep) ∧ w'.cell? ⟨w.heap.size, 3, none⟩ = some (.int .i64 x.bon) ∧ w'.cell? ⟨w.heap.size, 4, none⟩ = some (.int .i64 x.kee) ∧ w'.cell? ⟨w.heap.size, 5, none⟩ = some (.int .i64 x.fal) ∧ w'.cell? ⟨w.heap.size + 1, 1, none⟩ = some (.slice (some ⟨b2, o2, none⟩) ms.length yd) ∧ w'.cell? ⟨b2, o2 + k, none⟩ = some (.int .i64 (it ms k)) from by
        obtain ⟨x0, x1, x2, x3, x4, x5, y0, y1, y2⟩ := HH.out _ (Below_next HBR.out h)
        exact ⟨x0, x1, x2, x3, x4, x5, y1, ((Below_next HBR.out h).cell (p := ⟨b2, o2 + k, none⟩) hbl2).trans (HM.out k (by have := HEQ.out; omega))⟩)
      have HD := Lib.hid (below_drew wr)
      have hkm : k < ms.length := by have := HEQ.out; omega
      have hs1 := HS.out k
      have hs2 := HS.out (k + 1)
      have hwl := wrtI_le HK.out (it ns k) (it ms k)
      have HQ := Lib.hid (show Value.int .i64 (sumI x ns ms (k + 1)) = Value.int .i64 (IntKind.i64.wrap (sumI x ns ms k + wrtI x (it ns k) (it ms k))) from by rw [IntWalk.i64_in (sumI x ns ms k + wrtI x (it ns k) (it ms k)) (by omega)]; rfl)
      go_wp2_with fail
      go_region_held3 (fun w' => w'.cell? ⟨w.heap.size, 0, none⟩ = some (.slice A x.els.length c) ∧ w'.cell? ⟨w.heap.size, 1, none⟩ = some (.slice L x.lims.length d) ∧ w'.cell? ⟨w.heap.size, 2, none⟩ = some (.int .i64 x.rep) ∧ w'.cell? ⟨w.heap.size, 3, none⟩ = some (.int .i64 x.bon) ∧ w'.cell? ⟨w.heap.size, 4, none⟩ = some (.int .i64 x.kee) ∧ w'.cell? ⟨w.heap.size, 5, none⟩ = some (.int .i64 x.fal) ∧ w'.cell? ⟨w.heap.size + 1, 1, none⟩ = some (.slice (some ⟨b2, o2, none⟩) ms.length yd) ∧ w'.cell? ⟨b2, o2 + k, none⟩ = some (.int .i64 (it ms k)))
        (first | exact HG.out _ HD.out | exact HG.out _ HE.out)
        (first
          | (go_at_call 125; refine (bsWorth_any A L c d x (it ns k) (it ms k) _ (HR.out.below (Below_next HBR.out HD.out)) HK.out).mono ?_; rintro e w2 ⟨rfl, hb⟩; have HE := Lib.hid (Below_next HD.out hb); clear hb)
          )
      go_wp2
      go_roundw
      case rel => exact ⟨k + 1, by omega, by go_num, HQ.out.symm, Lib.hid (Below_next HBR.out HE.out)⟩
      case measure => simp [intOf]; omega
    · obtain rfl : k = ns.length := by omega
      obtain ⟨x0, x1, x2, x3, x4, x5, y0, y1, y2⟩ := HH.out _ HBR.out
      have hs1 := HS.out ns.length
      cases lt with
      | true =>
        have HV := Lib.hid (fulI_late x ns ms)
        have e1 : sumI x ns ms ns.length * (100 + x.bon) ≤ 6000 * 120 := by
          rcases Int.le_total 0 (sumI x ns ms ns.length) with h0 | h0
          · exact Int.mul_le_mul (by omega) (by omega) (by omega) (by omega)
          · have := Int.mul_nonneg_of_nonpos_of_nonpos (a := sumI x ns ms ns.length) (b := -(100 + x.bon)) h0 (by omega)
            rw [Int.mul_neg] at this
            omega
        have e2 : -(3 * 120) ≤ sumI x ns ms ns.length * (100 + x.bon) := by
          have h5 : -3 * (100 + x.bon) ≤ sumI x ns ms ns.length * (100 + x.bon) := Int.mul_le_mul_of_nonneg_right (by omega) (by omega)
          omega
        have m1 : IntKind.i64.wrap (sumI x ns ms ns.length * (100 + x.bon)) = sumI x ns ms ns.length * (100 + x.bon) := IntWalk.i64_in _ (by omega)
        go_wp2_with (go_at_call 126; refine (bsRound_any _ _ _ (by omega) (by omega) (by omega) (by omega)).mono ?_; rintro e w' ⟨rfl, rfl⟩)
        go_ret
        exact ⟨by rw [HV.out]; rfl, Below_next HB.out HBR.out⟩
      | false =>
        have HV := Lib.hid (fulI_early x ns ms)
        go_wp2
        go_ret
        exact ⟨by rw [HV.out]; rfl, Below_next HB.out HBR.out⟩
theorem bsFull_any (A L : Option Addr) (c d : Nat) (x : Cd) (y : Im) (w : World) (hr : CdAt w A L x) (hok : CdOk x) (hy : ImIn w w.heap.size y) (hi : ItOk y.ns y.ms) :
    Calls Tryd.prog 103 #[x.val A c L d, y.val] w fun e w' => e = .returned (.int .i64 (fulI x y.ns y.ms y.late)) ∧ Below w.heap.size w w' := by
  obtain ⟨YA, yc, YL, yd, ns, ms, lt⟩ := y
  exact bsFull_f A L c d x YA yc YL yd ns ms lt w hr hok hy hi

set_option maxHeartbeats 1000000 in
theorem bsRepeats_any (P : Option Addr) (c : Nat) (xs : List Im) (k : Nat) (w : World) (hr : Ims w w.heap.size P xs) (hok : ListOk xs) (hk : k < xs.length) (hcp : xs.length ≤ c ∧ c ≤ 9223372036854775807) :
    Calls Tryd.prog 104 #[.slice P xs.length c, .int .i64 k] w fun e w' => e = .returned (.int .i64 (rptI xs k : Nat)) ∧ Below w.heap.size w w' := by
  have HR := Lib.hid hr
  have HK := Lib.hid hok
  have h14 := hok.len
  obtain ⟨hcp1, hcp2⟩ := hcp
  have HRP := Lib.hid (fun j => repI_le (it (it xs k).ns 0) xs j)
  obtain ⟨b, o, rfl, hbl, hc⟩ := hr.out.im (by omega)
  have HC := Lib.hid hc
  obtain ⟨b1, o1, hA1, hbl1, hv1⟩ := str1 (HR.out.each k hk).ns (HK.out.each k hk).lo
  have HA := Lib.hid hA1
  have HV1 := Lib.hid hv1
  clear hr hok hc hA1 hv1
  unfold rptI
  go_enter Tryd.func104, Tryd.ntmps104
  go_wp2
  go_loopw [5, 12] (fun s i wr => ∃ j : Nat, j ≤ k ∧ i = .int .i64 j ∧ s = .int .i64 (repI (it (it xs k).ns 0) xs j : Nat) ∧ Hid (Below w.heap.size w wr)) (fun _ i _ => k - (intOf i).toNat)
  case atStart => exact ⟨0, Nat.zero_le _, rfl, rfl, Lib.hid (Below.refl _ _)⟩
  case round =>
    obtain ⟨j, hj, rfl, rfl, HBR⟩ := hrel
    have hrl := HRP.out j
    by_cases hlt : j < k
    · obtain ⟨c0, c1, c2⟩ := (HC.out j (by omega)).below HBR.out hbl
      obtain ⟨d0, d1, d2⟩ := (HC.out k hk).below HBR.out hbl
      obtain ⟨b2, o2, hA2, hbl2, hv2⟩ := str1 (HR.out.each j (by omega)).ns (HK.out.each j (by omega)).lo
      obtain ⟨b3, o3, hA3, hbl3, hv3⟩ := (HR.out.each j (by omega)).ms.int (show 0 < (it xs j).ms.length by have := (HK.out.each j (by omega)).lo; have := (HK.out.each j (by omega)).eq; omega)
      have HMK := Lib.hid (HK.out.each j (by omega)).eq
      have hlo := (HK.out.each j (by omega)).lo
      have hlo2 := (HK.out.each k hk).lo
      rw [hA2] at c0
      rw [hA3] at c1
      rw [HA.out] at d0
      have hY := imBox_new wr 76 (it xs j)
      have y0 := hY.c0
      have y1 := hY.c1
      rw [hA2, hA3] at y0 y1
      have f1 := below_alloc wr (.cells #[.slice (some ⟨b2, o2, none⟩) (it xs j).ns.length (it xs j).c, .slice (some ⟨b3, o3, none⟩) (it xs j).ms.length (it xs j).d, .bool (it xs j).late] 76)
      have HY0 := Lib.hid y0
      have HY1 := Lib.hid y1
      have HD0 := Lib.hid d0
      have HV2 := Lib.hid hv2
      have HV3 := Lib.hid (hv3 0 (by have := HMK.out; omega))
      clear hA2 hA3 hv2 hv3 y0 y1 hY d0 d1 d2
      go_wp2_with fail
      clear c0 c1 c2
      generalize hw4 : World.alloc wr _ = w4 at f1 HY0 HY1 ⊢
      clear hw4
      have HBN := Lib.hid (Below_next HBR.out f1)
      have y0 := HY0.out
      have y1 := HY1.out
      have d0 := (f1.cell (p := ⟨b, o + k * 3, none⟩) (Nat.lt_of_lt_of_le hbl HBR.out.size)).trans HD0.out
      have g1 := (HBN.out.cell (p := ⟨b1, o1, none⟩) hbl1).trans HV1.out
      have g2 := (HBN.out.cell (p := ⟨b2, o2, none⟩) hbl2).trans HV2.out
      have g3 := (HBN.out.cell (p := ⟨b3, o3, none⟩) hbl3).trans HV3.out
      clear f1
      have hi1 : 0 < (it xs j).ns.length := by omega
      have hi5 : 0 < (it xs j).ms.length := by have := HMK.out; omega
      have hi2 : 0 < (it xs k).ns.length := by omega
      have hi3 : (k : Int) < (xs.length : Int) := by omega
      have hi4 : (0 : Int) ≤ (k : Int) := by omega
      by_cases e : it (it xs j).ns 0 = it (it xs k).ns 0
      · by_cases em : it (it xs j).ms 0 = 3
        · have HE := Lib.hid (repI_void (s := it (it xs k).ns 0) em)
          have h := str_eq e
          rw [em] at g3
          clear e em
          go_quiet (fail)
          go_wp2
          go_roundw
          case rel => exact ⟨j + 1, by omega, by go_num, by rw [HE.out], Lib.hid (Below_next HBN.out (below_drewM _ _ _))⟩
          case measure => simp [intOf]; omega
        · have HE := Lib.hid (repI_yes e em)
          have h := str_eq e
          have hm : (it (it xs j).ms 0 == 3) = false := by simp; exact em
          clear e em
          go_quiet (fail)
          go_wp2
          go_roundw
          case rel => exact ⟨j + 1, by omega, by go_num, by rw [HE.out]; go_num, Lib.hid (Below_next HBN.out (below_drewM _ _ _))⟩
          case measure => simp [intOf]; omega
      · have HE := Lib.hid (repI_no e)
        have h := str_ne e
        clear e
        go_quiet (fail)
        go_wp2
        go_roundw
        case rel => exact ⟨j + 1, by omega, by go_num, by rw [HE.out], Lib.hid (Below_next HBN.out (below_drewM _ _ _))⟩
        case measure => simp [intOf]; omega
    · obtain rfl : j = k := by omega
      go_wp2
      go_ret
      exact ⟨rfl, HBR.out⟩
end Go.Proofs.YtnlcdfaojcnkpaaDoor

namespace Go.Proofs.YtnlcdfaojcnkpaaDoor
open Go.ChangeShapes Go.WideShapes Go.ChangeAt Go.RowKit
set_option linter.unusedVariables false

theorem fulI_nonneg {x : Cd} (h : CdOk x) (ns : List ByteArray) (ms : List Int) (late : Bool) (hk : ∀ j, j < ns.length → Known x (it ns j)) : 0 ≤ fulI x ns ms late := by
  have h1 := sumI_nonneg h ns ms ns.length hk
  have h2 := Int.mul_nonneg h1 (show 0 ≤ 100 + x.bon by have := h.bon; omega)
  cases late with
  | true => rw [fulI_late]; omega
  | false => rw [fulI_early]; exact h1
set_option maxHeartbeats 1000000 in
theorem bsItem_any (A L : Option Addr) (c d : Nat) (x : Cd) (P : Option Addr) (c1 : Nat) (xs : List Im) (k : Nat) (w : World) (hr : CdAt w A L x) (hp : Ims w w.heap.size P xs) (h : BsOk x xs) (hk : k < xs.length) (hcp : xs.length ≤ c1 ∧ c1 ≤ 9223372036854775807) :
    Calls Tryd.prog 80 #[x.val A c L d, .slice P xs.length c1, .int .i64 k] w fun e w' => e = .returned (.int .i64 (basI x xs k)) ∧ Below w.heap.size w w' := by
  have HCP := Lib.hid hcp
  clear hcp
  obtain ⟨W, hW, hB⟩ := boxed 31 w A c L d x
  have HB := Lib.hid hB.below
  have HX := Lib.hid hB.at_
  have HR := Lib.hid (hr.below hB.below)
  have HP := Lib.hid (hp.next hB.below)
  have HK := Lib.hid h
  have hf1 := fulI_le h.cd (it xs k).ns (it xs k).ms (it xs k).late (h.list.each k hk).hi
  have hf0 := fulI_nonneg h.cd (it xs k).ns (it xs k).ms (it xs k).late (fun j hj => h.know k hk j hj)
  have hrl := repI_le (it (it xs k).ns 0) xs k
  have hrp := h.cd.rep
  have h14 := h.list.len
  have HU := Lib.hid (show basI x xs k = if (rptI xs k : Int) < x.rep then fulI x (it xs k).ns (it xs k).ms (it xs k).late else if (rptI xs k : Int) = x.rep then fulI x (it xs k).ns (it xs k).ms (it xs k).late * 7 / 10 else 0 from rfl)
  clear hr hp hB h
  obtain ⟨b, o, rfl, hbl, hc⟩ := HP.out.out.im (by omega)
  have HG := Lib.hid (fun (w' : World) (h : Below W.heap.size W w') => show w'.cell? ⟨w.heap.size, 0, none⟩ = some (.slice A x.els.length c) ∧ w'.cell? ⟨w.heap.size, 1, none⟩ = some (.slice L x.lims.length d) ∧ w'.cell? ⟨w.heap.size, 2, none⟩ = some (.int .i64 x.rep) ∧ w'.cell? ⟨w.heap.size, 3, none⟩ = some (.int .i64 x.bon) ∧ w'.cell? ⟨w.heap.size, 4, none⟩ = some (.int .i64 x.kee) ∧ w'.cell? ⟨w.heap.size, 5, none⟩ = some (.int .i64 x.fal) ∧ w'.cell? ⟨b, o + k * 3, none⟩ = some (.slice (it xs k).A (it xs k).ns.length (it xs k).c) ∧ w'.cell? ⟨b, o + k * 3 + 1, none⟩ = some (.slice (it xs k).L (it xs k).ms.length (it xs k).d) ∧ w'.cell? ⟨b, o + k * 3 + 2, none⟩ = some (.bool (it xs k).late) from by
    obtain ⟨x0, x1, x2, x3, x4, x5⟩ := (HX.out.next h).box
    obtain ⟨c0, c1', c2⟩ := (hc k hk).below h hbl
    exact ⟨x0, x1, x2, x3, x4, x5, c0, c1', c2⟩)
  have HD := Lib.hid (below_drew W)
  clear hc
  unfold boxCd at hW
  unfold Cd.val
  go_enter Tryd.func80, Tryd.ntmps80
  go_wp2_with fail
  rw [← hW]
  clear hW
  go_region_held3 (fun w' => w'.cell? ⟨w.heap.size, 0, none⟩ = some (.slice A x.els.length c) ∧ w'.cell? ⟨w.heap.size, 1, none⟩ = some (.slice L x.lims.length d) ∧ w'.cell? ⟨w.heap.size, 2, none⟩ = some (.int .i64 x.rep) ∧ w'.cell? ⟨w.heap.size, 3, none⟩ = some (.int .i64 x.bon) ∧ w'.cell? ⟨w.heap.size, 4, none⟩ = some (.int .i64 x.kee) ∧ w'.cell? ⟨w.heap.size, 5, none⟩ = some (.int .i64 x.fal) ∧ w'.cell? ⟨b, o + k * 3, none⟩ = some (.slice (it xs k).A (it xs k).ns.length (it xs k).c) ∧ w'.cell? ⟨b, o + k * 3 + 1, none⟩ = some (.slice (it xs k).L (it xs k).ms.length (it xs k).d) ∧ w'.cell? ⟨b, o + k * 3 + 2, none⟩ = some (.bool (it xs k).late))
    (first | exact HG.out _ HD.out | exact HG.out _ HE.out)
    (first
      | (go_at_call 103; refine (bsFull_any A L c d x (it xs k) _ (HR.out.below HD.out) HK.out.cd ((HP.out.each k hk).next HD.out) (HK.out.list.each k hk)).mono ?_; rintro e w1 ⟨rfl, hb⟩; have HE := Lib.hid (Below_next HD.out hb); clear hb)
      )
  have HB1 := Lib.hid HE.out
  go_wp2_with fail
  refine (bsRepeats_any (some ⟨b, o, none⟩) c1 xs k _ (HP.out.next HB1.out) HK.out.list hk HCP.out).mono ?_
  rintro e w2 ⟨rfl, hb2⟩
  have HB2 := Lib.hid (Below_next HB1.out hb2)
  clear hb2
  obtain ⟨x0, x1, x2, x3, x4, x5⟩ := (HX.out.next HB2.out).box
  have hrr : rptI xs k ≤ k := hrl
  by_cases e1 : (rptI xs k : Int) < x.rep
  · have HV := Lib.hid (HU.out.trans (if_pos e1))
    go_wp2
    go_ret
    exact ⟨by rw [HV.out] <;> rfl, Below_next HB.out HB2.out⟩
  by_cases e2 : (rptI xs k : Int) = x.rep
  · have HV := Lib.hid (HU.out.trans ((if_neg e1).trans (if_pos e2)))
    have m5 : (fulI x (it xs k).ns (it xs k).ms (it xs k).late * 7).tdiv 10 = fulI x (it xs k).ns (it xs k).ms (it xs k).late * 7 / 10 := Int.tdiv_eq_ediv_of_nonneg (by omega)
    have m6 : IntKind.i64.wrap (fulI x (it xs k).ns (it xs k).ms (it xs k).late * 7 / 10) = fulI x (it xs k).ns (it xs k).ms (it xs k).late * 7 / 10 := IntWalk.i64_in _ (by omega)
    have m7 : ((rptI xs k : Int) == x.rep) = true := by simp; exact e2
    go_wp2
    go_ret
    exact ⟨by rw [HV.out] <;> rfl, Below_next HB.out HB2.out⟩
  · have HV := Lib.hid (HU.out.trans ((if_neg e1).trans (if_neg e2)))
    have m7 : ((rptI xs k : Int) == x.rep) = false := by simp; exact e2
    go_wp2
    go_ret
    exact ⟨by rw [HV.out] <;> rfl, Below_next HB.out HB2.out⟩
end Go.Proofs.YtnlcdfaojcnkpaaDoor
