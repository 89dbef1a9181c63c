/- The rules of a programme as the program asks them: those without names' counts. More rules of a programme as the program asks them. The rule about repeated names as the program asks it. The rule about limits as the program asks it; the rules by their numbers. The table of the rules, as the program makes it. -/
import Derived.Test.YtnlcdfaojcnkpaaDoorBj
import Derived.Test.YtnlcdfaojcnkpaaDoorBg
import Derived.Test.YtnlcdfaojcnkpaaDoorBf
import Derived.Deep.QuietTactic
import Derived.BigQuiet
import Derived.Test.YtnlcdfaojcnkpaaDoorBe
namespace Go.Proofs.YtnlcdfaojcnkpaaDoor
open Go.ChangeShapes Go.WideShapes Go.ChangeAt Go.RowKit
set_option linter.unusedVariables false

/-- All names are those of jumps. -/
def Jumps (x : Cd) (ns : List ByteArray) : Prop := ∀ j, j < ns.length → famI x (it ns j) = 0
end Go.Proofs.YtnlcdfaojcnkpaaDoor

namespace Go.Proofs.YtnlcdfaojcnkpaaDoor
open Go.ChangeShapes Go.WideShapes Go.ChangeAt Go.RowKit
set_option linter.unusedVariables false

theorem jump_single {x : Cd} {ns : List ByteArray} (h : ns.length = 1) : ∀ j, j < ns.length → Jump x ns (it ns j) := fun j hj => .inl h
theorem jump_all {x : Cd} {ns : List ByteArray} (h : Jumps x ns) : ∀ j, j < ns.length → Jump x ns (it ns j) := fun j hj => .inr (h j hj)
theorem jump_not {x : Cd} {ns : List ByteArray} (h1 : 1 < ns.length) (h : ¬ Jumps x ns) (k : ∀ j, j < ns.length → Jump x ns (it ns j)) : False :=
  h (fun j hj => (k j hj).elim (fun e => by omega) id)
end Go.Proofs.YtnlcdfaojcnkpaaDoor

namespace Go.Proofs.YtnlcdfaojcnkpaaDoor
open Go.ChangeShapes Go.WideShapes Go.ChangeAt Go.RowKit
set_option linter.unusedVariables false

theorem mem_it {α : Type} [Inhabited α] {xs : List α} {s : α} : s ∈ xs ↔ ∃ j, j < xs.length ∧ it xs j = s := by
  rw [List.mem_iff_getElem?]
  constructor
  · rintro ⟨j, hj⟩
    have hl := (List.getElem?_eq_some_iff.1 hj).1
    rw [it_get xs j hl] at hj
    exact ⟨j, hl, Option.some.inj hj⟩
  · rintro ⟨j, hl, rfl⟩
    exact ⟨j, it_get xs j hl⟩
theorem mem_namesTo (xs : List Im) (s : ByteArray) : ∀ k, (toL s ∈ namesTo xs k ↔ ∃ i, i < k ∧ ∃ j, j < (it xs i).ns.length ∧ it (it xs i).ns j = s)
  | 0 => by simp [namesTo]
  | k + 1 => by
    rw [namesTo, List.mem_append, mem_namesTo xs s k]
    constructor
    · rintro (⟨i, hi, h⟩ | h)
      · exact ⟨i, by omega, h⟩
      · obtain ⟨t, ht, e⟩ := List.mem_map.1 h
        have hts : t = s := by rw [← toB_toL t, e, toB_toL]
        subst hts
        exact ⟨k, by omega, mem_it.1 ht⟩
    · rintro ⟨i, hi, h⟩
      rcases Nat.lt_or_ge i k with h' | h'
      · exact .inl ⟨i, h', h⟩
      · obtain rfl : i = k := by omega
        exact .inr (List.mem_map.2 ⟨s, mem_it.2 h, rfl⟩)
theorem mem_nmF {xs : List Im} (hok : ListOk xs) (s : ByteArray) : s ∈ nmF xs ↔ ∃ i, i < xs.length ∧ ∃ j, j < (it xs i).ns.length ∧ it (it xs i).ns j = s := by
  rw [nmF_yes hok, ← mem_namesTo xs s xs.length]
  constructor
  · intro h
    obtain ⟨t, ht, rfl⟩ := List.mem_map.1 h
    rw [toL_toB]
    exact ((unq_is _).2 t).1 ht
  · intro h
    exact List.mem_map.2 ⟨toL s, ((unq_is _).2 _).2 h, toB_toL s⟩
theorem allNames_nmF {xs : List Im} (hok : ListOk xs) (Q : ByteArray → Prop) : AllNames xs (fun _ n => Q n) ↔ ∀ m, m < (nmF xs).length → Q (it (nmF xs) m) := by
  constructor
  · intro h m hm
    obtain ⟨i, hi, j, hj, e⟩ := (mem_nmF hok _).1 (mem_it.2 ⟨m, hm, rfl⟩)
    rw [← e]
    exact h i hi j hj
  · intro h i hi j hj
    obtain ⟨m, hm, e⟩ := mem_it.1 ((mem_nmF hok _).2 ⟨i, hi, j, hj, rfl⟩)
    rw [← e]
    exact h m hm
theorem nmF_name {xs : List Im} (hok : ListOk xs) (m : Nat) (hm : m < (nmF xs).length) : NameOk (it (nmF xs) m) := by
  obtain ⟨i, hi, j, hj, e⟩ := (mem_nmF hok _).1 (mem_it.2 ⟨m, hm, rfl⟩)
  rw [← e]
  exact (hok.each i hi).nm j hj
theorem timI_mono (s : ByteArray) (ns : List ByteArray) : ∀ j k, j ≤ k → timI s ns j ≤ timI s ns k := fun j k h => by
  induction h with
  | refl => exact Nat.le_refl _
  | step _ ih => exact Nat.le_trans ih (by rw [timI]; split <;> omega)
theorem timN_mono (s : ByteArray) (xs : List Im) : ∀ j k, j ≤ k → timN s xs j ≤ timN s xs k := fun j k h => by
  induction h with
  | refl => exact Nat.le_refl _
  | step _ ih => exact Nat.le_trans ih (Nat.le_add_right _ _)
theorem timN_pos {xs : List Im} (hok : ListOk xs) (m : Nat) (hm : m < (nmF xs).length) : 1 ≤ timN (it (nmF xs) m) xs xs.length := by
  obtain ⟨i, hi, j, hj, e⟩ := (mem_nmF hok _).1 (mem_it.2 ⟨m, hm, rfl⟩)
  have h1 := timN_mono (it (nmF xs) m) xs (i + 1) xs.length hi
  have h2 := timI_mono (it (nmF xs) m) (it xs i).ns (j + 1) (it xs i).ns.length hj
  rw [timI_yes e] at h2
  rw [timN] at h1
  omega

end Go.Proofs.YtnlcdfaojcnkpaaDoor

namespace Go.Proofs.YtnlcdfaojcnkpaaDoor
open Go.ChangeShapes Go.WideShapes Go.ChangeAt Go.RowKit
set_option linter.unusedVariables false

theorem foldl_min (zs : List Int) : ∀ a : Int, 0 ≤ zs.foldl min a ↔ 0 ≤ a ∧ ∀ z ∈ zs, 0 ≤ z := by
  induction zs with
  | nil => intro a; simp
  | cons z r ih =>
    intro a
    rw [List.foldl_cons, ih]
    simp only [List.mem_cons, forall_eq_or_imp]
    constructor
    · rintro ⟨h1, h2⟩
      exact ⟨by omega, by omega, h2⟩
    · rintro ⟨h1, h2, h3⟩
      exact ⟨by omega, h3⟩
theorem min_room {x : Cd} {xs : List Im} (h : PgAsk x xs) : 0 ≤ Lib.minOf (rmF x xs) ↔ RuleP x xs 6 := by
  rw [rmF_yes h, rmG_full _ _ _ (cntG_len _ _ _)]
  unfold Lib.minOf
  rw [foldl_min]
  simp only [List.headD_cons, List.mem_cons, forall_eq_or_imp]
  constructor
  · rintro ⟨_, h0, h1, h2, h3, h4, _⟩ f hf
    have : f = 0 ∨ f = 1 ∨ f = 2 ∨ f = 3 ∨ f = 4 := by omega
    rcases this with rfl | rfl | rfl | rfl | rfl <;> omega
  · intro q
    have h0 := q 0 (by omega)
    have h1 := q 1 (by omega)
    have h2 := q 2 (by omega)
    have h3 := q 3 (by omega)
    have h4 := q 4 (by omega)
    exact ⟨by omega, by omega, by omega, by omega, by omega, by omega, fun z hz => absurd hz (by simp)⟩
end Go.Proofs.YtnlcdfaojcnkpaaDoor

namespace Go.Proofs.YtnlcdfaojcnkpaaDoor
open Go.ChangeShapes Go.WideShapes Go.ChangeAt Go.RowKit Go.PlainAid
set_option linter.unusedVariables false

/-- A function value, and a rule. -/
structure Fu where
  f : FuncId
structure Ru where
  n : Int
  f : FuncId
@[reducible] def Fu.val (x : Fu) : Value := .func (.func x.f) #[] #[]
def Fu.cs (x : Fu) : List Value := [x.val]
def Ru.cs (x : Ru) : List Value := [.int .i64 x.n, .func (.func x.f) #[] #[]]
instance : Flat Fu where
  default := ⟨0⟩
  sz := 1
  cells := Fu.cs
  len := fun _ => rfl
instance : Flat Ru where
  default := ⟨0, 0⟩
  sz := 2
  cells := Ru.cs
  len := fun _ => rfl
theorem Lst.fu {w : World} {B : Nat} {A : Option Addr} {xs : List Fu} (h : Lst w B A xs) (hp : 0 < xs.length) : ∃ b o, A = some ⟨b, o, none⟩ ∧ b < B ∧ ∀ i, i < xs.length → w.cell? ⟨b, o + i, none⟩ = some (it xs i).val := by
  obtain ⟨b, o, h1, h2, h3⟩ := h hp
  refine ⟨b, o, h1, h2, fun i hi => ?_⟩
  have := h3 i hi 0 _ rfl
  rw [show o + i * Flat.sz Fu + 0 = o + i by show o + i * 1 + 0 = _; omega] at this
  exact this
theorem OwnAt.ru {w : World} {g : Nat} {xs : List Ru} (h : OwnAt w g 0 xs) (i : Nat) (hi : i < xs.length) : w.cell? ⟨g, i * 2, none⟩ = some (.int .i64 (it xs i).n) ∧ w.cell? ⟨g, i * 2 + 1, none⟩ = some (.func (.func (it xs i).f) #[] #[]) := by
  have h0 := h.cell i hi 0 _ rfl
  have h1 := h.cell i hi 1 _ rfl
  rw [show 0 + i * Flat.sz Ru + 0 = i * 2 by show 0 + i * 2 + 0 = _; omega] at h0
  rw [show 0 + i * Flat.sz Ru + 1 = i * 2 + 1 by show 0 + i * 2 + 1 = _; omega] at h1
  exact ⟨h0, h1⟩
def rulesTo (fs : List Fu) : Nat → List Ru
  | 0 => []
  | k + 1 => rulesTo fs k ++ [⟨(k : Int) + 1, (it fs k).f⟩]
theorem rulesTo_len (fs : List Fu) : ∀ k, (rulesTo fs k).length = k
  | 0 => rfl
  | k + 1 => by rw [rulesTo, List.length_append, rulesTo_len fs k]; rfl
theorem ru_one (y : Ru) : ∀ u ∈ Ru.cs y, u.oneCell' = true := fun u hu => by
  simp [Ru.cs] at hu
  rcases hu with rfl | rfl <;> rfl
theorem ru_news {W : World} {b : Nat} {y : Ru} (h0 : W.cell? ⟨b, 0, none⟩ = some (.int .i64 y.n)) (h1 : W.cell? ⟨b, 1, none⟩ = some (.func (.func y.f) #[] #[])) : ∀ j u, (Ru.cs y)[j]? = some u → W.cell? ((⟨b, 0, none⟩ : Addr).add j) = some u := fun j u hj => by
  match j, hj with
  | 0, hj => obtain rfl := Option.some.inj hj; exact h0
  | 1, hj => obtain rfl := Option.some.inj hj; exact h1

theorem allNames_same {xs ys : List Im} (h : SameS xs ys) {Q R : List ByteArray → ByteArray → Prop} (hq : ∀ a b, Q a b ↔ R a b) : AllNames ys Q ↔ AllNames xs R := by
  constructor
  · intro k i hi j hj
    have he := (h.each i hi).ns
    have := k i (by have := h.len; omega) j (by rw [he]; exact hj)
    rw [he] at this
    exact (hq _ _).1 this
  · intro k i hi j hj
    have hi' : i < xs.length := by have := h.len; omega
    have he := (h.each i hi').ns
    rw [he] at hj
    rw [he]
    exact (hq _ _).2 (k i hi' j hj)
theorem cntW_same (m : Nat) {xs ys : List Im} (h : SameS xs ys) : ∀ k, k ≤ xs.length → cntW m ys k = cntW m xs k
  | 0, _ => rfl
  | k + 1, hk => by rw [cntW, cntW, cntW_same m h k (by omega), (h.each k (by omega)).ns]
theorem timN_same (s : ByteArray) {xs ys : List Im} (h : SameS xs ys) : ∀ k, k ≤ xs.length → timN s ys k = timN s xs k ∧ comN s ys k = comN s xs k
  | 0, _ => ⟨rfl, rfl⟩
  | k + 1, hk => by
    have h1 := timN_same s h k (by omega)
    rw [timN, timN, comN, comN, h1.1, h1.2, (h.each k (by omega)).ns]
    exact ⟨rfl, rfl⟩
theorem ruleP_same {x : Cd} {xs ys : List Im} (h : SameS xs ys) (k : Nat) : RuleP x ys k ↔ RuleP x xs k := by
  have hl := h.len
  match k with
  | 1 => show 0 < ys.length ↔ 0 < xs.length; rw [hl]
  | 2 => exact allNames_same (Q := fun _ n => Known x n) (R := fun _ n => Known x n) h (fun _ _ => Iff.rfl)
  | 3 =>
    constructor
    · intro q i hi
      have := q i (by omega)
      unfold Unmarked at this ⊢
      rw [(h.each i hi).ms] at this
      exact this
    · intro q i hi
      have := q i (by omega)
      unfold Unmarked at this ⊢
      rw [(h.each i (by omega)).ms]
      exact this
  | 4 => exact allNames_same (Q := Jump x) (R := Jump x) h (fun _ _ => Iff.rfl)
  | 5 =>
    show cntW 1 ys ys.length ≤ 3 ∧ cntW 2 ys ys.length ≤ 1 ↔ cntW 1 xs xs.length ≤ 3 ∧ cntW 2 xs xs.length ≤ 1
    rw [hl, cntW_same 1 h _ (Nat.le_refl _), cntW_same 2 h _ (Nat.le_refl _)]
  | 6 =>
    show (∀ f, f < 5 → it (cntG x ys ys.length) f ≤ it x.lims f) ↔ (∀ f, f < 5 → it (cntG x xs xs.length) f ≤ it x.lims f)
    rw [hl, cntG_same h _ (Nat.le_refl _)]
  | 7 =>
    refine allNames_same (Q := fun _ n => Seldom x ys n) (R := fun _ n => Seldom x xs n) h (fun _ n => ?_)
    have h1 := timN_same n h xs.length (Nat.le_refl _)
    show (timN n ys ys.length : Int) ≤ x.rep ∧ (timN n ys ys.length = 1 ∨ 0 < comN n ys ys.length) ↔ (timN n xs xs.length : Int) ≤ x.rep ∧ (timN n xs xs.length = 1 ∨ 0 < comN n xs xs.length)
    rw [hl, h1.1, h1.2]
  | 0 =>
    show (∀ i, i < ys.length → (it ys i).late = decide (ys.length ≤ 2 * i)) ↔ (∀ i, i < xs.length → (it xs i).late = decide (xs.length ≤ 2 * i))
    rw [hl]
    exact ⟨fun q i hi => by rw [← (h.each i hi).late]; exact q i hi, fun q i hi => by rw [(h.each i hi).late]; exact q i hi⟩
  | k + 8 =>
    show (∀ i, i < ys.length → (it ys i).late = decide (ys.length ≤ 2 * i)) ↔ (∀ i, i < xs.length → (it xs i).late = decide (xs.length ≤ 2 * i))
    rw [hl]
    exact ⟨fun q i hi => by rw [← (h.each i hi).late]; exact q i hi, fun q i hi => by rw [(h.each i hi).late]; exact q i hi⟩
end Go.Proofs.YtnlcdfaojcnkpaaDoor
