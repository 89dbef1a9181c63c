/- Names, each one once, in their order: sorted insertion, and sorting with duplicates left out, give the same list. -/
import Derived.Test.YtjnimmjlmfhpdaaItemP
import Derived.Test.YtjnimmjlmfhpdaaShelf
namespace Go.Proofs.Ytjnimmjlmfhpdaa
open Go.ChangeShapes Go.WideShapes Go.ChangeAt Go.RowKit Go.PlainAid
set_option linter.unusedVariables false

abbrev Bs := List UInt8
def toB (l : Bs) : ByteArray := ⟨l.toArray⟩
def toL (b : ByteArray) : Bs := b.data.toList
theorem toB_toL (b : ByteArray) : toB (toL b) = b := by
  apply ByteArray.ext
  simp [toB, toL]
theorem toL_toB (l : Bs) : toL (toB l) = l := by simp [toB, toL]
theorem toL_eq (b : ByteArray) : b.toList = toL b := Go.ByteArray.toList_eq b
theorem blt_irrefl (a : Bs) : ¬ a < a := List.lt_irrefl a
theorem blt_trans {a b c : Bs} (h : a < b) (k : b < c) : a < c := List.lt_trans h k
theorem blt_total (a b : Bs) : a < b ∨ a = b ∨ b < a := by
  by_cases h : a < b
  · exact .inl h
  · by_cases k : b < a
    · exact .inr (.inr k)
    · exact .inr (.inl (List.le_antisymm (List.not_lt.1 k) (List.not_lt.1 h)))
theorem ble_iff (a b : Bs) : a ≤ b ↔ ¬ b < a := List.not_lt.symm
/-- Strictly increasing. -/
def Strict (l : List Bs) : Prop := l.Pairwise (· < ·)
theorem strict_unique : ∀ (a b : List Bs), Strict a → Strict b → (∀ x, x ∈ a ↔ x ∈ b) → a = b
  | [], [], _, _, _ => rfl
  | [], y :: b, _, _, h => absurd ((h y).2 (by simp)) (by simp)
  | x :: a, [], _, _, h => absurd ((h x).1 (by simp)) (by simp)
  | x :: a, y :: b, ha, hb, h => by
    have ha' := List.pairwise_cons.1 ha
    have hb' := List.pairwise_cons.1 hb
    have hxy : x = y := by
      rcases List.mem_cons.1 ((h x).1 (by simp)) with e | e
      · exact e
      · rcases List.mem_cons.1 ((h y).2 (by simp)) with e2 | e2
        · exact e2.symm
        · exact absurd (blt_trans (ha'.1 y e2) (hb'.1 x e)) (blt_irrefl x)
    subst hxy
    rw [strict_unique a b ha'.2 hb'.2 fun z => ?_]
    constructor
    · intro hz
      rcases List.mem_cons.1 ((h z).1 (List.mem_cons_of_mem _ hz)) with e | e
      · subst e
        exact absurd (ha'.1 z hz) (blt_irrefl z)
      · exact e
    · intro hz
      rcases List.mem_cons.1 ((h z).2 (List.mem_cons_of_mem _ hz)) with e | e
      · subst e
        exact absurd (hb'.1 z hz) (blt_irrefl z)
      · exact e
/-- What the compaction of the first m places of a sorted list is. -/
theorem compact_upTo (d : Array Bs) (hs : ∀ i j : Nat, i < j → j < d.size → ¬ d[j]! < d[i]!) : ∀ m, m ≤ d.size → Strict (Lib.compactUpTo d m) ∧ ∀ x, x ∈ Lib.compactUpTo d m ↔ ∃ j, j < m ∧ d[j]! = x
  | 0, _ => by
    have e : Lib.compactUpTo d 0 = [] := rfl
    rw [e]
    exact ⟨List.Pairwise.nil, fun x => ⟨fun h => absurd h (by simp), fun ⟨j, hj, _⟩ => absurd hj (by omega)⟩⟩
  | m + 1, hm => by
    obtain ⟨h1, h2⟩ := compact_upTo d hs m (by omega)
    rw [Lib.compactUpTo_succ]
    by_cases hk : m = 0 ∨ d[m]! ≠ d[m - 1]!
    · have hkeep : Lib.keeps d m = true := by simp [Lib.keeps, hk]
      rw [hkeep, if_pos rfl]
      refine ⟨List.pairwise_append.2 ⟨h1, by simp, fun a ha b hb => ?_⟩, fun x => ?_⟩
      · obtain rfl := List.mem_singleton.1 hb
        obtain ⟨j, hj, rfl⟩ := (h2 a).1 ha
        rcases blt_total d[j]! d[m]! with h | h | h
        · exact h
        · rcases hk with e | e
          · omega
          · exfalso
            rcases Nat.lt_or_ge j (m - 1) with q | q
            · have q1 := hs j (m - 1) q (by omega)
              have q2 := hs (m - 1) m (by omega) (by omega)
              rcases blt_total d[m - 1]! d[m]! with r | r | r
              · rw [← h] at r
                exact q1 r
              · exact e r.symm
              · exact q2 r
            · obtain rfl : j = m - 1 := by omega
              exact e h.symm
        · exact absurd h (hs j m hj (by omega))
      · rw [List.mem_append, h2 x, List.mem_singleton]
        constructor
        · rintro (⟨j, hj, e⟩ | e)
          · exact ⟨j, by omega, e⟩
          · exact ⟨m, by omega, e.symm⟩
        · rintro ⟨j, hj, e⟩
          rcases Nat.lt_or_ge j m with q | q
          · exact .inl ⟨j, q, e⟩
          · obtain rfl : j = m := by omega
            exact .inr e.symm
    · have hkeep : Lib.keeps d m = false := by simp [Lib.keeps, hk]
      have hk1 : d[m]! = d[m - 1]! := Classical.byContradiction (fun e => hk (.inr e))
      have hk0 : m ≠ 0 := fun e => hk (.inl e)
      rw [hkeep]
      simp only [Bool.false_eq_true, if_false, List.append_nil]
      refine ⟨h1, fun x => ?_⟩
      rw [h2 x]
      constructor
      · rintro ⟨j, hj, e⟩
        exact ⟨j, by omega, e⟩
      · rintro ⟨j, hj, e⟩
        rcases Nat.lt_or_ge j m with q | q
        · exact ⟨j, q, e⟩
        · obtain rfl : j = m := by omega
          exact ⟨j - 1, by omega, by rw [← hk1]; exact e⟩
abbrev srt (N : List Bs) : List Bs := N.mergeSort fun x y => decide (x ≤ y)
theorem srt_len (N : List Bs) : (srt N).length = N.length := List.length_mergeSort N
theorem srt_mem (N : List Bs) (x : Bs) : x ∈ srt N ↔ x ∈ N := List.mem_mergeSort
theorem srt_sorted (N : List Bs) : (srt N).Pairwise (fun x y => ¬ y < x) := by
  have h := List.pairwise_mergeSort (le := fun x y : Bs => decide (x ≤ y)) (fun a b c h1 h2 => by
    simp only [decide_eq_true_eq] at h1 h2 ⊢
    exact List.le_trans h1 h2) (fun a b => by
    simp only [Bool.or_eq_true, decide_eq_true_eq]
    exact List.le_total a b) N
  exact h.imp (fun {a b} h => by
    simp only [decide_eq_true_eq] at h
    exact (ble_iff a b).1 h)
/-- Each one once, in their order. -/
def unq (N : List Bs) : List Bs := Lib.compact (srt N)
theorem unq_is (N : List Bs) : Strict (unq N) ∧ ∀ x, x ∈ unq N ↔ x ∈ N := by
  have h := compact_upTo (srt N).toArray (fun i j hij hj => by
    have hj' : j < (srt N).length := by simpa using hj
    have := List.pairwise_iff_getElem.1 (srt_sorted N) i j (by omega) hj' hij
    rw [getElem!_pos (srt N).toArray j hj, getElem!_pos (srt N).toArray i (Nat.lt_trans hij hj)]
    simpa using this) (srt N).length (by simp)
  refine ⟨h.1, fun x => ?_⟩
  have h2 := h.2 x
  rw [show unq N = Lib.compactUpTo (srt N).toArray (srt N).length from rfl, h2, ← srt_mem N x]
  constructor
  · rintro ⟨j, hj, rfl⟩
    rw [getElem!_pos _ j (by simpa using hj)]
    simp
  · intro hx
    obtain ⟨j, hj, rfl⟩ := List.getElem_of_mem hx
    exact ⟨j, hj, by rw [getElem!_pos _ j (by simpa using hj)]; simp⟩
theorem unq_len (N : List Bs) : (unq N).length ≤ N.length := by
  have := Lib.compact_length_le (srt N)
  rw [srt_len] at this
  exact this

/-- A list that holds the names of N, each one once, in their order. -/
structure UOf (N : List Bs) (L : List Bs) : Prop where
  str : Strict L
  mem : ∀ x, x ∈ L ↔ x ∈ N
theorem UOf.eq {N L : List Bs} (h : UOf N L) : L = unq N := strict_unique L _ h.str (unq_is N).1 (fun x => (h.mem x).trans ((unq_is N).2 x).symm)
theorem UOf.nil : UOf [] [] := ⟨List.Pairwise.nil, fun x => Iff.rfl⟩
theorem UOf.seen {N L : List Bs} {x : Bs} (h : UOf N L) (hx : x ∈ L) : UOf (N ++ [x]) L := ⟨h.str, fun y => by
  rw [List.mem_append, List.mem_singleton, ← h.mem y]
  exact ⟨.inl, fun q => q.elim id (fun e => e ▸ hx)⟩⟩
theorem UOf.put {N L : List Bs} {x : Bs} (h : UOf N L) (k : Nat) (hk : k ≤ L.length) (h1 : ∀ y, y ∈ L.take k → y < x) (h2 : ∀ y, y ∈ L.drop k → x < y) : UOf (N ++ [x]) (L.take k ++ x :: L.drop k) := by
  refine ⟨?_, fun y => ?_⟩
  · have hp : Strict (L.take k ++ L.drop k) := by rw [List.take_append_drop]; exact h.str
    obtain ⟨p1, p2, p3⟩ := List.pairwise_append.1 hp
    refine List.pairwise_append.2 ⟨p1, List.pairwise_cons.2 ⟨h2, p2⟩, fun a ha b hb => ?_⟩
    rcases List.mem_cons.1 hb with e | e
    · exact e ▸ h1 a ha
    · exact p3 a ha b e
  · rw [List.mem_append, List.mem_append, List.mem_cons, List.mem_singleton, ← h.mem y]
    have e : y ∈ L ↔ y ∈ L.take k ∨ y ∈ L.drop k := by
      rw [← List.mem_append, List.take_append_drop]
    rw [e]
    constructor
    · rintro (q | q | q)
      · exact .inl (.inl q)
      · exact .inr q
      · exact .inl (.inr q)
    · rintro ((q | q) | q)
      · exact .inl q
      · exact .inr (.inr q)
      · exact .inr (.inl q)
end Go.Proofs.Ytjnimmjlmfhpdaa
