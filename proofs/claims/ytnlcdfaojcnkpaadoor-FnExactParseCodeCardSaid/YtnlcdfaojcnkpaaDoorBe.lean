/- An append of one-cell elements onto a row of the call's own, whatever the source: nil, empty or not; at a step of a region whose order is open. An append onto a row of the call's own, of elements of any size, whatever the source. An item without marks, in the model. CleanItems in the model: a list built by appends, each item in blocks of its own. Names, each one once, in their order: sorted insertion, and sorting with duplicates left out, give the same list. NamesIn in the program. -/
import Derived.Maps.AppendAt
import Derived.Laws.Rows
import Derived.RegionTactic
import Derived.OwnWalk
import Derived.PlainAid
import Derived.Test.YtnlcdfaojcnkpaaDoorBd
import Derived.Deep.RegionHeld3
import Derived.Test.YtnlcdfaojcnkpaaDoorShelf
import Derived.Shelf.Slices.CompactS
import Derived.Shelf.Slices.Cells
namespace Go.Proofs.YtnlcdfaojcnkpaaDoor
open Go

section
variable {P : Program} (w : World)

theorem run_append_src (base : Nat) (t ty e : TypeId) (i : TypeInfo) (z : Value) (bytes : Nat) (ht : P.underlying t = some (.slice e)) (hi : P.info? e = some i) (hz : i.zero = some z)
    (hsize : i.size = 1) (hby : i.bytes = bytes) (hzs : z.cells.size = 1) (v : Value) (n : Nat) (xs : List Value) (hown : w.ownsRow base e 1 v n xs)
    (A : Option Addr) (m c : Nat) (news : List Value) (hl : news.length = m) (hsrc : 0 < m → ∃ ad, A = some ad ∧ ∀ j u, news[j]? = some u → w.cell? (ad.add j) = some u) (h1 : ∀ u ∈ news, u.oneCell' = true)
    (h63 : n + m ≤ maxLen) (hbytes : (n + m) * bytes ≤ 140737488355328) (hbase : base ≤ w.heap.size) :
    ∃ v' w', (Builtin.append_ #[t, t] ty #[v, .slice A m c]).run P w = .ok v' w' ∧ w'.ownsRow base e 1 v' (n + m) (xs ++ news) ∧ w.grownBy w' v.ownBlock ∧ (v'.ownBlock = v.ownBlock ∨ v'.ownBlock = some w.heap.size) := by
  rcases A with _ | ad
  · have h0 : m = 0 := by
      rcases Nat.eq_zero_or_pos m with h | h
      · exact h
      · obtain ⟨ad, e, _⟩ := hsrc h
        cases e
    subst h0
    obtain rfl : news = [] := List.eq_nil_of_length_eq_zero hl
    refine ⟨v, w, ?_, by simpa using hown, World.grownBy.refl w _, .inl rfl⟩
    rcases hown.2 with ⟨rfl, rfl⟩ | ⟨g, cap, cur, rfl, _, _, hnc, _⟩
    · simp [Builtin.append_, run_underlying ht, sizeOf, typeInfo, hi, Builtin.lenOf, Builtin.firstCells]
    · simp [Builtin.append_, run_underlying ht, sizeOf, typeInfo, hi, Builtin.lenOf, Builtin.firstCells, hnc, storeCells]
  · have hnews : ∀ j u, news[j]? = some u → w.cell? (ad.add j) = some u := fun j u hj => by
      rcases Nat.eq_zero_or_pos m with h | h
      · obtain rfl : news = [] := List.eq_nil_of_length_eq_zero (hl.trans h)
        simp at hj
      · obtain ⟨ad', e, hc⟩ := hsrc h
        cases e
        exact hc j u hj
    obtain ⟨v', w', hr, ho, hg, _, hat⟩ := run_append_own_at (P := P) w base t ty e i z 1 bytes ht hi hz hsize hby hzs (by omega) v n xs hown ad m c news (by omega) hnews h1 h63 hbytes hbase
    exact ⟨v', w', hr, ho, hg, hat⟩

theorem wp_append_src {o : Oper} {a : Act} {K : Act → World → Prop} {Q : Exit → Act → World → Prop} (s x : Operand) (t : TypeId)
    (ho : o.op = .call { callee := .builtin .append, args := #[s, x], argTypes := #[t, t] })
    (base : Nat) (e : TypeId) (i : TypeInfo) (z : Value) (bytes : Nat) (ht : P.underlying t = some (.slice e)) (hi : P.info? e = some i) (hz : i.zero = some z)
    (hsize : i.size = 1) (hby : i.bytes = bytes) (hzs : z.cells.size = 1) (v : Value) (n : Nat) (xs : List Value) (hs : a.eval s = v) (hown : w.ownsRow base e 1 v n xs)
    (A : Option Addr) (m c : Nat) (news : List Value) (hx : a.eval x = .slice A m c) (hl : news.length = m) (hsrc : 0 < m → ∃ ad, A = some ad ∧ ∀ j u, news[j]? = some u → w.cell? (ad.add j) = some u) (h1 : ∀ u ∈ news, u.oneCell' = true)
    (h63 : n + m ≤ maxLen) (hbytes : (n + m) * bytes ≤ 140737488355328) (hbase : base ≤ w.heap.size)
    (h : ∀ v' w', w'.ownsRow base e 1 v' (n + m) (xs ++ news) → w.grownBy w' v.ownBlock → (v'.ownBlock = v.ownBlock ∨ v'.ownBlock = some w.heap.size) → K (a.put o.dst v') w') : o.wp P a w K Q := by
  obtain ⟨v', w', hr, h2, h3, h4⟩ := run_append_src (P := P) w base t o.type e i z bytes ht hi hz hsize hby hzs v n xs hown A m c news hl hsrc h1 h63 hbytes hbase
  unfold Oper.wp execOp
  simp only [ho, resolve, invoke, builtin, Sem.run_bind, Sem.run_pure, Result.andThen_ok, List.map_toArray, List.map_cons, List.map_nil, hs, hx, hr]
  exact h v' w' h2 h3 h4

theorem step_append_src {ops : Array Oper} {o : Oper} {a : Act} {K : Act → World → Prop} {Q : Exit → Act → World → Prop} {E : Prop} (hgd : o.guard = none) (s x : Operand) (t : TypeId)
    (ho : o.op = .call { callee := .builtin .append, args := #[s, x], argTypes := #[t, t] })
    (base : Nat) (e : TypeId) (i : TypeInfo) (z : Value) (bytes : Nat) (ht : P.underlying t = some (.slice e)) (hi : P.info? e = some i) (hz : i.zero = some z)
    (hsize : i.size = 1) (hby : i.bytes = bytes) (hzs : z.cells.size = 1) (v : Value) (n : Nat) (xs : List Value) (hs : a.eval s = v) (hown : w.ownsRow base e 1 v n xs)
    (A : Option Addr) (m c : Nat) (news : List Value) (hx : a.eval x = .slice A m c) (hl : news.length = m) (hsrc : 0 < m → ∃ ad, A = some ad ∧ ∀ j u, news[j]? = some u → w.cell? (ad.add j) = some u) (h1 : ∀ u ∈ news, u.oneCell' = true)
    (h63 : n + m ≤ maxLen) (hbytes : (n + m) * bytes ≤ 140737488355328) (hbase : base ≤ w.heap.size)
    (h : ∀ v' w', w'.ownsRow base e 1 v' (n + m) (xs ++ news) → w.grownBy w' v.ownBlock → (v'.ownBlock = v.ownBlock ∨ v'.ownBlock = some w.heap.size) → K (a.put o.dst v') w') :
    if Region.wanted o (yielded ops a.tmps) = true then Oper.wp P o a w K Q else E := by
  have hw : Region.wanted o (yielded ops a.tmps) = true := by simp [Region.wanted, hgd]
  rw [if_pos hw]
  exact wp_append_src w s x t ho base e i z bytes ht hi hz hsize hby hzs v n xs hs hown A m c news hx hl hsrc h1 h63 hbytes hbase h

theorem wpList_append_src {ops : Array Oper} {rest : List Oper} {o : Oper} {a : Act} {Q : Exit → Act → World → Prop} (hgd : o.guard = none) (s x : Operand) (t : TypeId)
    (ho : o.op = .call { callee := .builtin .append, args := #[s, x], argTypes := #[t, t] })
    (base : Nat) (e : TypeId) (i : TypeInfo) (z : Value) (bytes : Nat) (ht : P.underlying t = some (.slice e)) (hi : P.info? e = some i) (hz : i.zero = some z)
    (hsize : i.size = 1) (hby : i.bytes = bytes) (hzs : z.cells.size = 1) (v : Value) (n : Nat) (xs : List Value) (hs : a.eval s = v) (hown : w.ownsRow base e 1 v n xs)
    (A : Option Addr) (m c : Nat) (news : List Value) (hx : a.eval x = .slice A m c) (hl : news.length = m) (hsrc : 0 < m → ∃ ad, A = some ad ∧ ∀ j u, news[j]? = some u → w.cell? (ad.add j) = some u) (h1 : ∀ u ∈ news, u.oneCell' = true)
    (h63 : n + m ≤ maxLen) (hbytes : (n + m) * bytes ≤ 140737488355328) (hbase : base ≤ w.heap.size)
    (h : ∀ v' w', w'.ownsRow base e 1 v' (n + m) (xs ++ news) → w.grownBy w' v.ownBlock → (v'.ownBlock = v.ownBlock ∨ v'.ownBlock = some w.heap.size) → wpList P ops Q rest (a.put o.dst v') w') : wpList P ops Q (o :: rest) a w :=
  wpList_plain hgd fun _ hK => wp_append_src w s x t ho base e i z bytes ht hi hz hsize hby hzs v n xs hs hown A m c news hx hl hsrc h1 h63 hbytes hbase fun v' w' h2 h3 h4 => hK _ _ (h v' w' h2 h3 h4)
end

/-- A new block without elements is a row of the call's own. -/
theorem owns_empty (w : World) (base g : Nat) (e : TypeId) (hb : base ≤ g) (hg : w.heap[g]? = some (.cells #[] e (0, 0))) : w.ownsRow base e 1 (.slice (some ⟨g, 0, none⟩) 0 0) 0 [] :=
  ⟨rfl, .inr ⟨g, 0, #[], rfl, hb, hg, Nat.le_refl _, Nat.zero_le _, rfl, rfl⟩⟩
end Go.Proofs.YtnlcdfaojcnkpaaDoor

namespace Go.Proofs.YtnlcdfaojcnkpaaDoor
open Go Go.PlainAid

section
variable {P : Program} (w : World)

theorem run_append_srcN (base : Nat) (t ty e : TypeId) (i : TypeInfo) (z : Value) (size bytes : Nat) (hsz : 0 < size) (ht : P.underlying t = some (.slice e)) (hi : P.info? e = some i) (hz : i.zero = some z)
    (hsize : i.size = size) (hby : i.bytes = bytes) (hzs : z.cells.size = size) (v : Value) (n : Nat) (xs : List Value) (hown : w.ownsRow base e size v n xs)
    (A : Option Addr) (m c : Nat) (news : List Value) (hl : news.length = m * size) (hsrc : 0 < m → ∃ ad, A = some ad ∧ ∀ j u, news[j]? = some u → w.cell? (ad.add j) = some u) (h1 : ∀ u ∈ news, u.oneCell' = true)
    (h63 : n + m ≤ maxLen) (hbytes : (n + m) * bytes ≤ 140737488355328) (hbase : base ≤ w.heap.size) :
    ∃ v' w', (Builtin.append_ #[t, t] ty #[v, .slice A m c]).run P w = .ok v' w' ∧ w'.ownsRow base e size v' (n + m) (xs ++ news) ∧ w.grownBy w' v.ownBlock ∧ (v'.ownBlock = v.ownBlock ∨ v'.ownBlock = some w.heap.size) := by
  rcases A with _ | ad
  · have h0 : m = 0 := by
      rcases Nat.eq_zero_or_pos m with h | h
      · exact h
      · obtain ⟨ad, e, _⟩ := hsrc h
        cases e
    subst h0
    obtain rfl : news = [] := List.eq_nil_of_length_eq_zero (by simpa using hl)
    refine ⟨v, w, ?_, by simpa using hown, World.grownBy.refl w _, .inl rfl⟩
    rcases hown.2 with ⟨rfl, rfl⟩ | ⟨g, cap, cur, rfl, _, _, hnc, _⟩
    · simp [Builtin.append_, run_underlying ht, sizeOf, typeInfo, hi, Builtin.lenOf, Builtin.firstCells]
    · simp [Builtin.append_, run_underlying ht, sizeOf, typeInfo, hi, Builtin.lenOf, Builtin.firstCells, hnc, storeCells]
  · have hnews : ∀ j u, news[j]? = some u → w.cell? (ad.add j) = some u := fun j u hj => by
      rcases Nat.eq_zero_or_pos m with h | h
      · obtain rfl : news = [] := List.eq_nil_of_length_eq_zero (by rw [hl, h, Nat.zero_mul])
        simp at hj
      · obtain ⟨ad', e, hc⟩ := hsrc h
        cases e
        exact hc j u hj
    obtain ⟨v', w', hr, ho, hg, _, hat⟩ := run_append_own_at (P := P) w base t ty e i z size bytes ht hi hz hsize hby hzs hsz v n xs hown ad m c news hl hnews h1 h63 hbytes hbase
    exact ⟨v', w', hr, ho, hg, hat⟩

theorem wp_append_srcN {o : Oper} {a : Act} {K : Act → World → Prop} {Q : Exit → Act → World → Prop} (s x : Operand) (t : TypeId)
    (ho : o.op = .call { callee := .builtin .append, args := #[s, x], argTypes := #[t, t] })
    (base : Nat) (e : TypeId) (i : TypeInfo) (z : Value) (size bytes : Nat) (hsz : 0 < size) (ht : P.underlying t = some (.slice e)) (hi : P.info? e = some i) (hz : i.zero = some z)
    (hsize : i.size = size) (hby : i.bytes = bytes) (hzs : z.cells.size = size) (v : Value) (n : Nat) (xs : List Value) (hs : a.eval s = v) (hown : w.ownsRow base e size v n xs)
    (A : Option Addr) (m c : Nat) (news : List Value) (hx : a.eval x = .slice A m c) (hl : news.length = m * size) (hsrc : 0 < m → ∃ ad, A = some ad ∧ ∀ j u, news[j]? = some u → w.cell? (ad.add j) = some u) (h1 : ∀ u ∈ news, u.oneCell' = true)
    (h63 : n + m ≤ maxLen) (hbytes : (n + m) * bytes ≤ 140737488355328) (hbase : base ≤ w.heap.size)
    (h : ∀ v' w', w'.ownsRow base e size v' (n + m) (xs ++ news) → w.grownBy w' v.ownBlock → (v'.ownBlock = v.ownBlock ∨ v'.ownBlock = some w.heap.size) → K (a.put o.dst v') w') : o.wp P a w K Q := by
  obtain ⟨v', w', hr, h2, h3, h4⟩ := run_append_srcN (P := P) w base t o.type e i z size bytes hsz ht hi hz hsize hby hzs v n xs hown A m c news hl hsrc h1 h63 hbytes hbase
  unfold Oper.wp execOp
  simp only [ho, resolve, invoke, builtin, Sem.run_bind, Sem.run_pure, Result.andThen_ok, List.map_toArray, List.map_cons, List.map_nil, hs, hx, hr]
  exact h v' w' h2 h3 h4

theorem step_append_srcN {ops : Array Oper} {o : Oper} {a : Act} {K : Act → World → Prop} {Q : Exit → Act → World → Prop} {E : Prop} (hgd : o.guard = none) (s x : Operand) (t : TypeId)
    (ho : o.op = .call { callee := .builtin .append, args := #[s, x], argTypes := #[t, t] })
    (base : Nat) (e : TypeId) (i : TypeInfo) (z : Value) (size bytes : Nat) (hsz : 0 < size) (ht : P.underlying t = some (.slice e)) (hi : P.info? e = some i) (hz : i.zero = some z)
    (hsize : i.size = size) (hby : i.bytes = bytes) (hzs : z.cells.size = size) (v : Value) (n : Nat) (xs : List Value) (hs : a.eval s = v) (hown : w.ownsRow base e size v n xs)
    (A : Option Addr) (m c : Nat) (news : List Value) (hx : a.eval x = .slice A m c) (hl : news.length = m * size) (hsrc : 0 < m → ∃ ad, A = some ad ∧ ∀ j u, news[j]? = some u → w.cell? (ad.add j) = some u) (h1 : ∀ u ∈ news, u.oneCell' = true)
    (h63 : n + m ≤ maxLen) (hbytes : (n + m) * bytes ≤ 140737488355328) (hbase : base ≤ w.heap.size)
    (h : ∀ v' w', w'.ownsRow base e size v' (n + m) (xs ++ news) → w.grownBy w' v.ownBlock → (v'.ownBlock = v.ownBlock ∨ v'.ownBlock = some w.heap.size) → K (a.put o.dst v') w') :
    if Region.wanted o (yielded ops a.tmps) = true then Oper.wp P o a w K Q else E := by
  have hw : Region.wanted o (yielded ops a.tmps) = true := by simp [Region.wanted, hgd]
  rw [if_pos hw]
  exact wp_append_srcN w s x t ho base e i z size bytes hsz ht hi hz hsize hby hzs v n xs hs hown A m c news hx hl hsrc h1 h63 hbytes hbase h

theorem wpList_append_srcN {ops : Array Oper} {rest : List Oper} {o : Oper} {a : Act} {Q : Exit → Act → World → Prop} (hgd : o.guard = none) (s x : Operand) (t : TypeId)
    (ho : o.op = .call { callee := .builtin .append, args := #[s, x], argTypes := #[t, t] })
    (base : Nat) (e : TypeId) (i : TypeInfo) (z : Value) (size bytes : Nat) (hsz : 0 < size) (ht : P.underlying t = some (.slice e)) (hi : P.info? e = some i) (hz : i.zero = some z)
    (hsize : i.size = size) (hby : i.bytes = bytes) (hzs : z.cells.size = size) (v : Value) (n : Nat) (xs : List Value) (hs : a.eval s = v) (hown : w.ownsRow base e size v n xs)
    (A : Option Addr) (m c : Nat) (news : List Value) (hx : a.eval x = .slice A m c) (hl : news.length = m * size) (hsrc : 0 < m → ∃ ad, A = some ad ∧ ∀ j u, news[j]? = some u → w.cell? (ad.add j) = some u) (h1 : ∀ u ∈ news, u.oneCell' = true)
    (h63 : n + m ≤ maxLen) (hbytes : (n + m) * bytes ≤ 140737488355328) (hbase : base ≤ w.heap.size)
    (h : ∀ v' w', w'.ownsRow base e size v' (n + m) (xs ++ news) → w.grownBy w' v.ownBlock → (v'.ownBlock = v.ownBlock ∨ v'.ownBlock = some w.heap.size) → wpList P ops Q rest (a.put o.dst v') w') : wpList P ops Q (o :: rest) a w :=
  wpList_plain hgd fun _ hK => wp_append_srcN w s x t ho base e i z size bytes hsz ht hi hz hsize hby hzs v n xs hs hown A m c news hx hl hsrc h1 h63 hbytes hbase fun v' w' h2 h3 h4 => hK _ _ (h v' w' h2 h3 h4)
end

/-- A new block without elements is a row of the call's own. -/
theorem owns_emptyN (w : World) (base g sz : Nat) (e : TypeId) (hb : base ≤ g) (hg : w.heap[g]? = some (.cells #[] e (0, 0))) : w.ownsRow base e sz (.slice (some ⟨g, 0, none⟩) 0 0) 0 [] :=
  ⟨by simp, .inr ⟨g, 0, #[], rfl, hb, hg, Nat.le_refl _, Nat.zero_le _, by simp, by simp⟩⟩
theorem heap_at_new (w : World) (o : Obj) (g : Nat) (h : w.heap.size = g) : (w.alloc o).heap[g]? = some o := h ▸ heap_alloc_new w o
/-- The room of a row built by append. -/
theorem own_room {w : World} {B sz n d : Nat} {e : TypeId} {R : Option Addr} {cs : List Value} (h : w.ownsRow B e sz (.slice R n d) n cs) : n ≤ d ∧ d ≤ 9223372036854775807 := by
  rcases h.2 with ⟨hv, h0⟩ | ⟨g, cap, cur, hv, _, _, h3, h4, _⟩
  · cases hv
    omega
  · cases hv
    unfold maxLen at h4
    exact ⟨h3, h4⟩
end Go.Proofs.YtnlcdfaojcnkpaaDoor

namespace Go.Proofs.YtnlcdfaojcnkpaaDoor
open Go.ChangeShapes Go.WideShapes Go.ChangeAt Go.RowKit Go.PlainAid
set_option linter.unusedVariables false

theorem stop_body {P : Program} {f : Func} {R : Ending → World → Prop} {x : Exit} {a : Act} {w : World} (h : Stop (∀ w', w' = w → bodyPost P f R x a w')) : bodyPost P f R x a w := h.of w rfl
theorem str_src {w W : World} {B : Nat} {A : Option Addr} {xs : List ByteArray} (h : Lst w B A xs) (hb : Below B w W) : 0 < xs.length → ∃ ad, A = some ad ∧ ∀ j u, (xs.map Value.string)[j]? = some u → W.cell? (ad.add j) = some u := fun hp => by
  obtain ⟨b, o, rfl, hbl, hc⟩ := h.str hp
  refine ⟨_, rfl, fun j u hj => ?_⟩
  have hj' : j < xs.length := by
    have := (List.getElem?_eq_some_iff.1 hj).1
    simpa using this
  rw [List.getElem?_map, it_get xs j hj'] at hj
  have hu : Value.string (it xs j) = u := by simpa using hj
  rw [← hu]
  have hadd : (⟨b, o, none⟩ : Addr).add j = ⟨b, o + j, none⟩ := by
    unfold Addr.add
    by_cases e : j = 0 <;> simp [e]
  rw [hadd]
  exact (hb.cell (p := ⟨b, o + j, none⟩) hbl).trans (hc j hj')
theorem str_one (xs : List ByteArray) : ∀ u ∈ xs.map Value.string, u.oneCell' = true := fun u hu => by
  obtain ⟨x, _, rfl⟩ := List.mem_map.1 hu
  rfl
theorem flatMap_str (xs : List ByteArray) : xs.flatMap Flat.cells = xs.map Value.string := by
  induction xs with
  | nil => rfl
  | cons x r ih =>
    rw [List.flatMap_cons, List.map_cons, ih]
    rfl
theorem row_pos {w : World} {B sz n : Nat} {e : TypeId} {v : Value} {cs : List Value} (h : w.ownsRow B e sz v n cs) (hn : 0 < n) : ∃ g cap, v = .slice (some ⟨g, 0, none⟩) n cap ∧ B ≤ g ∧ g < w.heap.size := by
  rcases h.2 with ⟨_, h0⟩ | ⟨g, cap, cur, hv, _⟩
  · omega
  · exact ⟨g, cap, hv, by subst hv; exact (h.lt g rfl).1, by subst hv; exact (h.lt g rfl).2⟩
theorem l1OwnS_any (A : Option Addr) (c : Nat) (l : List ByteArray) (w : World) (hr : Lst w w.heap.size A l) (hl : l.length ≤ 1048576) (hp : 0 < l.length) :
    Calls Tryd.prog 79 #[.slice A l.length c] w fun e w' => ∃ g cap, e = .returned (.slice (some ⟨g, 0, none⟩) l.length cap) ∧ OwnAt w' g 0 l ∧ w.heap.size ≤ g ∧ g < w'.heap.size ∧ Below w.heap.size w w' := by
  obtain ⟨i0, hi, hz0, hz1, hz2⟩ := info_parts Tryd.infoStr
  have HZ := Lib.hid (And.intro hi (And.intro hz0 (And.intro hz1 hz2)))
  have HR := Lib.hid hr
  clear hi hz0 hz1 hz2 hr
  go_enter Tryd.func79, Tryd.ntmps79
  go_wp2_with (at_builtin; refine wpList_append_src _ rfl (.tmp 3) (.tmp 4) 66 rfl w.heap.size 9 i0 (.string ⟨#[]⟩) 16 Tryd.underlying66 HZ.out.1 HZ.out.2.1 HZ.out.2.2.1 HZ.out.2.2.2 rfl (.slice (some ⟨w.heap.size, 0, none⟩) 0 0) 0 [] rfl (owns_emptyN _ _ _ _ _ (Nat.le_refl _) (heap_at_new _ _ _ rfl)) A l.length c (l.map Value.string) rfl (by simp) (str_src HR.out (below_alloc _ _)) (str_one l) (by unfold maxLen; omega) (by omega) (by simp) ?_; intro v1 w1 hown1 hgrow1 hat1; have HOWN1 := Lib.hid hown1; have HG1 := Lib.hid hgrow1; clear hown1 hgrow1 hat1)
  go_ret
  have ho : w1.ownsRow w.heap.size 9 1 v1 l.length (l.map Value.string) := by
    have := HOWN1.out
    rwa [Nat.zero_add, List.nil_append] at this
  obtain ⟨g, cap, rfl, h1, h2⟩ := row_pos ho hp
  refine ⟨g, cap, rfl, own_of_row (α := ByteArray) (cap := cap) (e := 9) (base := w.heap.size) l ?_, h1, h2, ?_⟩
  · rw [flatMap_str]
    exact ho
  · exact Below.grown (below_alloc _ _) HG1.out (by simp) (fun kk e => by simp [Value.ownBlock] at e; omega)

/-- The marks of an item without marks. -/
def zer (n : Nat) : List Int := List.replicate n 0
theorem zer_len (n : Nat) : (zer n).length = n := by simp [zer]
theorem imCells {w : World} {b : Nat} {x : Im} (h : ImBox w b x) : w.cell? ⟨b, 0, none⟩ = some (.slice x.A x.ns.length x.c) ∧ w.cell? ⟨b, 1, none⟩ = some (.slice x.L x.ms.length x.d) ∧ w.cell? ⟨b, 2, none⟩ = some (.bool x.late) := ⟨h.c0, h.c1, h.c2⟩
theorem ImBox.three {w : World} {b : Nat} {x : Im} (h : ImBox w b x) (b' : Nat) (hne : b ≠ b') (u0 u1 u2 : Value) : ImBox (((w.setCell ⟨b', 0, none⟩ u0).setCell ⟨b', 1, none⟩ u1).setCell ⟨b', 2, none⟩ u2) b x := by
  have hk : Only (fun i => i = b') w (((w.setCell ⟨b', 0, none⟩ u0).setCell ⟨b', 1, none⟩ u1).setCell ⟨b', 2, none⟩ u2) :=
    Only.put (S := fun i => i = b') (Only.put (S := fun i => i = b') (Only.put (S := fun i => i = b') (Only.refl _ w) b' 0 rfl _) b' 1 rfl _) b' 2 rfl _
  have hb := hk.block b h.lt (fun e => hne e)
  exact ⟨Nat.lt_of_lt_of_le h.lt hk.size, (World.cell?_of_block (a := ⟨b, 0, none⟩) hb).trans h.c0, (World.cell?_of_block (a := ⟨b, 1, none⟩) hb).trans h.c1, (World.cell?_of_block (a := ⟨b, 2, none⟩) hb).trans h.c2⟩
theorem below_adn (w : World) (o : Obj) : Below w.heap.size w (w.alloc o).drew := (below_alloc w o).trans ((below_drew _).mono (by simp))
set_option maxRecDepth 20000 in
set_option maxHeartbeats 1000000 in
theorem itClean_any (x : Im) (w : World) (hr : ImIn w w.heap.size x) (hok : ItOk x.ns x.ms) :
    Calls Tryd.prog 47 #[x.val] w fun e w' => ∃ g1 c1 g2 c2, e = .returned (.agg #[.slice (some ⟨g1, 0, none⟩) x.ns.length c1, .slice (some ⟨g2, 0, none⟩) x.ns.length c2, .bool x.late]) ∧ OwnAt w' g1 0 x.ns ∧ OwnAt w' g2 0 (zer x.ns.length) ∧ w.heap.size ≤ g1 ∧ w.heap.size ≤ g2 ∧ g1 ≠ g2 ∧ g1 < w'.heap.size ∧ g2 < w'.heap.size ∧ Below w.heap.size w w' := by
  have hl1 : x.ns.length ≤ 1048576 := by have := hok.hi; omega
  have hp1 : 0 < x.ns.length := hok.lo
  have HR := Lib.hid hr
  obtain ⟨i0, hi, hz0, hz1, hz2⟩ := info_parts Tryd.infoInt
  have HZ := Lib.hid (made_flat (α := Int) #[.int .i64 0] 0 x.ns.length rfl (by decide))
  clear hr hok
  unfold Im.val
  go_enter Tryd.func47, Tryd.ntmps47
  go_wp2_with fail
  generalize hW : World.alloc (World.alloc w _) _ = W
  have hB : Below w.heap.size w W := by
    rw [← hW]
    go_grown
  have hS : W.heap.size = w.heap.size + 2 := by rw [← hW]; simp
  have hX : ImBox W w.heap.size x := by
    rw [← hW]
    exact (imBox_new w _ x).next (below_alloc _ _)
  have hM : ImMem W (w.heap.size + 1) (.slice none 0 0) (.slice none 0 0) (.bool false) := by
    rw [← hW]
    exact imMem_new _ _ _ (by simp) _ _ _
  have HB0 := Lib.hid hB
  have HX0 := Lib.hid hX
  have HM0 := Lib.hid hM
  have HXd := Lib.hid (hX.next (below_drew W))
  have HR0 := Lib.hid (HR.out.next hB)
  have HS0 := Lib.hid hS
  clear hW hB hX hM hS
  have HRd := Lib.hid (HR0.out.next (below_drew W))
  have HMd := Lib.hid (HM0.out.below (below_drew W) (by have := HS0.out; omega))
  have HBd := Lib.hid (below_next HB0.out (below_drew W))
  have HSd : Hid (W.drew.heap.size = w.heap.size + 2) := HS0
  clear HX0 HM0 HB0 HR0
  (obtain ⟨wm, hrunm, hown, hgrow⟩ := run_make_full (P := Tryd.prog) W.drew w.heap.size 23 3 i0 (.int .i64 0) 1 Tryd.underlying23 hi hz0 hz1 .i64 .i64 x.ns.length (by rw [hz2]; omega) (by unfold maxLen; omega) (HBd.out.size); have hf := own_of_row (α := Int) (cap := x.ns.length) (e := 3) (base := w.heap.size) (zer x.ns.length) (by unfold zer; rw [← HZ.out, List.length_replicate]; exact hown); have hb := (Below.refl _ _).grown hgrow (Nat.le_refl _) (fun k e => by cases e); have hlt : W.drew.heap.size < wm.heap.size := (hown.lt _ rfl).2; have HXm := Lib.hid (HXd.out.next hb); have HMm := Lib.hid (HMd.out.below hb (by have := HSd.out; omega)); have HBm := Lib.hid (below_next HBd.out hb); have HRm := Lib.hid (HRd.out.next hb); have HFm := Lib.hid hf; have HSm := Lib.hid (show w.heap.size + 2 ≤ W.drew.heap.size ∧ W.drew.heap.size < wm.heap.size from by have := HSd.out; omega); clear hown hgrow hf hb hlt)
  go_region_held3 (fun w' => w'.cell? ⟨w.heap.size, 0, none⟩ = some (.slice x.A x.ns.length x.c) ∧ w'.cell? ⟨w.heap.size, 1, none⟩ = some (.slice x.L x.ms.length x.d) ∧ w'.cell? ⟨w.heap.size, 2, none⟩ = some (.bool x.late))
    (first | (with_reducible exact imCells HX2.out) | (with_reducible exact imCells HXc.out) | (with_reducible exact imCells HXm.out) | (with_reducible exact imCells HXd.out) | (with_reducible exact imCells (HX2.out.three (w.heap.size + 1) (by omega) _ _ _)))
    (first
      | (go_at_call 79; refine (l1OwnS_any x.A x.c x.ns _ HRm.out.ns hl1 hp1).mono ?_; rintro e w2 ⟨g1, c1, rfl, ho, h1, h2, hb⟩; have HX2 := Lib.hid (HXm.out.next hb); have HM2 := Lib.hid (HMm.out.below hb (by have := HSm.out; omega)); have HB2 := Lib.hid (below_next HBm.out hb); have HE2 := Lib.hid ho; have HF2 := Lib.hid (HFm.out.block (hb.block _ HSm.out.2)); have HQ2 := Lib.hid (show w.heap.size + 2 ≤ g1 ∧ w.heap.size + 2 ≤ W.drew.heap.size ∧ g1 ≠ W.drew.heap.size ∧ g1 < w2.heap.size ∧ W.drew.heap.size < w2.heap.size from by have := HSm.out; have := HSd.out; have := hb.size; omega); obtain ⟨m0, m1, m2, mf⟩ := HM2.out; clear ho h1 h2 hb)
      | (go_at_call 79; refine (l1OwnS_any x.A x.c x.ns _ HRd.out.ns hl1 hp1).mono ?_; rintro e w1 ⟨g1, c1, rfl, ho, h1, h2, hb⟩; have HXc := Lib.hid (HXd.out.next hb); have HMc := Lib.hid (HMd.out.below hb (by have := HSd.out; omega)); have HBc := Lib.hid (below_next HBd.out hb); have HEc := Lib.hid ho; have HQc := Lib.hid (show w.heap.size + 2 ≤ g1 ∧ g1 < w1.heap.size ∧ w.heap.size + 2 ≤ w1.heap.size from by have := HSd.out; have := hb.size; omega); clear ho h1 h2 hb; obtain ⟨w2, hrun, hown, hgrow⟩ := run_make_full (P := Tryd.prog) w1 w.heap.size 23 3 i0 (.int .i64 0) 1 Tryd.underlying23 hi hz0 hz1 .i64 .i64 x.ns.length (by rw [hz2]; omega) (by unfold maxLen; omega) (HBc.out.size); have hf := own_of_row (α := Int) (cap := x.ns.length) (e := 3) (base := w.heap.size) (zer x.ns.length) (by unfold zer; rw [← HZ.out, List.length_replicate]; exact hown); have hb := (Below.refl _ _).grown hgrow (Nat.le_refl _) (fun k e => by cases e); have hlt : w1.heap.size < w2.heap.size := (hown.lt _ rfl).2; have HX2 := Lib.hid (HXc.out.next hb); have HM2 := Lib.hid (HMc.out.below hb (by have := HQc.out; omega)); have HB2 := Lib.hid (below_next HBc.out hb); have HE2 := Lib.hid (HEc.out.block (hb.block _ HQc.out.2.1)); have HF2 := Lib.hid hf; have HQ2 := Lib.hid (show w.heap.size + 2 ≤ g1 ∧ w.heap.size + 2 ≤ w1.heap.size ∧ g1 ≠ w1.heap.size ∧ g1 < w2.heap.size ∧ w1.heap.size < w2.heap.size from by have := HQc.out; have := hb.size; omega); obtain ⟨m0, m1, m2, mf⟩ := HM2.out; clear hown hgrow hf hb hlt)
      | fail)
  all_goals
    first | (generalize hg2 : w1.heap.size = g2 at HF2 HQ2 ⊢) | (rw [show W.drew.heap.size = W.heap.size from rfl] at HF2 HQ2; (try rw [show W.drew.heap.size = W.heap.size from rfl]); generalize hg2 : W.heap.size = g2 at HF2 HQ2 ⊢)
    go_wp2
    refine stop_body ⟨?_⟩
    intro w8 hw8
    have hm8 : ImMem w8 (w.heap.size + 1) (.slice (some ⟨g1, 0, none⟩) x.ns.length c1) (.slice (some ⟨g2, 0, none⟩) x.ns.length x.ns.length) (.bool x.late) := by
      rw [hw8]
      exact ((HM2.out.set0 _).set1 _).set2 _
    have hk8 : Only (fun i => i = w.heap.size + 1) w2 w8 := by
      rw [hw8]
      exact Only.put (S := fun i => i = w.heap.size + 1) (Only.put (S := fun i => i = w.heap.size + 1) (Only.put (S := fun i => i = w.heap.size + 1) (Only.refl _ w2) _ 0 rfl _) _ 1 rfl _) _ 2 rfl _
    clear hw8 m0 m1 m2 mf
    obtain ⟨m0, m1, m2, mf⟩ := hm8
    refine bodyPost_ret (v := .agg #[.slice (some ⟨g1, 0, none⟩) x.ns.length c1, .slice (some ⟨g2, 0, none⟩) x.ns.length x.ns.length, .bool x.late]) (by simp [results, Tryd.results47, go_sem, m0, m1, m2]) rfl ?_
    obtain ⟨q1, q2, q3, q4, q5⟩ := HQ2.out
    exact ⟨g1, c1, g2, x.ns.length, rfl, HE2.out.block (hk8.block g1 q4 (by omega)), HF2.out.block (hk8.block g2 q5 (by omega)), by omega, by omega, q3, Nat.lt_of_lt_of_le q4 hk8.size, Nat.lt_of_lt_of_le q5 hk8.size, HB2.out.trans (hk8.below HB2.out.size (fun k hk => by omega))⟩
end Go.Proofs.YtnlcdfaojcnkpaaDoor

namespace Go.Proofs.YtnlcdfaojcnkpaaDoor
open Go.ChangeShapes Go.WideShapes Go.ChangeAt Go.RowKit Go.PlainAid
set_option linter.unusedVariables false

theorem own_heap {w w' : World} {base size n : Nat} {e : TypeId} {v : Value} {xs : List Value} (h : w.ownsRow base e size v n xs) (hb : ∀ k, v.ownBlock = some k → w'.heap[k]? = w.heap[k]?) : w'.ownsRow base e size v n xs := by
  obtain ⟨h1, h2⟩ := h
  refine ⟨h1, ?_⟩
  rcases h2 with h2 | ⟨g, cap, cur, rfl, h3, h4, h5⟩
  · exact .inl h2
  · exact .inr ⟨g, cap, cur, rfl, h3, (hb g rfl).trans h4, h5⟩
theorem own_next {w w' : World} {base size n : Nat} {e : TypeId} {v : Value} {xs : List Value} (h : w.ownsRow base e size v n xs) (hb : Below w.heap.size w w') : w'.ownsRow base e size v n xs :=
  own_heap h (fun k e => hb.block k (h.lt k e).2)
/-- An item without marks, in the blocks g1 and g2. -/
structure ClnAt (w : World) (x y : Im) (g1 g2 : Nat) : Prop where
  A : y.A = some ⟨g1, 0, none⟩
  L : y.L = some ⟨g2, 0, none⟩
  ns : y.ns = x.ns
  ms : y.ms = zer x.ns.length
  late : y.late = x.late
  o1 : OwnAt w g1 0 x.ns
  o2 : OwnAt w g2 0 (zer x.ns.length)
theorem ClnAt.keep {w w' : World} {x y : Im} {g1 g2 : Nat} (h : ClnAt w x y g1 g2) (h1 : w'.heap[g1]? = w.heap[g1]?) (h2 : w'.heap[g2]? = w.heap[g2]?) : ClnAt w' x y g1 g2 :=
  ⟨h.A, h.L, h.ns, h.ms, h.late, h.o1.block h1, h.o2.block h2⟩
def ClnTo (w : World) (xs ys : List Im) (G : Nat → Nat) (k : Nat) : Prop := ∀ j, j < k → ClnAt w (it xs j) (it ys j) (G (2 * j)) (G (2 * j + 1))
theorem ClnTo.keep {w w' : World} {xs ys : List Im} {G : Nat → Nat} {k : Nat} (h : ClnTo w xs ys G k) (hb : ∀ i, i < 2 * k → w'.heap[G i]? = w.heap[G i]?) : ClnTo w' xs ys G k := fun j hj =>
  (h j hj).keep (hb _ (by omega)) (hb _ (by omega))
theorem it_snoc (ys : List Im) (y : Im) (k : Nat) (hk : ys.length = k) (j : Nat) : it (ys ++ [y]) j = if j = k then y else it ys j := by
  unfold it
  rw [List.getD_eq_getElem?_getD, List.getD_eq_getElem?_getD]
  rcases Nat.lt_trichotomy j k with h | h | h
  · rw [List.getElem?_append_left (by omega), if_neg (by omega)]
  · subst h
    rw [List.getElem?_append_right (by omega), hk, if_pos rfl]
    simp
  · rw [List.getElem?_append_right (by omega), if_neg (by omega), hk, List.getElem?_eq_none (by simp; omega), List.getElem?_eq_none (by omega)]
theorem ClnTo.snoc {w : World} {xs ys : List Im} {G : Nat → Nat} {k g1 g2 : Nat} {y : Im} (h : ClnTo w xs ys G k) (hk : ys.length = k) (hy : ClnAt w (it xs k) y g1 g2) : ClnTo w xs (ys ++ [y]) (grow2 G k g1 g2) (k + 1) := fun j hj => by
  rw [it_snoc ys y k hk]
  by_cases e : j = k
  · subst e
    rw [if_pos rfl, grow2_0, grow2_1]
    exact hy
  · rw [if_neg e, grow2_lt (by omega), grow2_lt (by omega)]
    exact h j (by omega)
/-- Two more blocks, in whatever order. -/
theorem Apart.grow' {G : Nat → Nat} {B T T' k g1 g2 : Nat} (h : Apart G B T (2 * k)) (hB : B ≤ T) (h1 : T ≤ g1) (h2 : T ≤ g2) (hne : g1 ≠ g2) (h3 : g1 < T') (h4 : g2 < T') : Apart (grow2 G k g1 g2) B T' (2 * (k + 1)) := by
  have hv : ∀ i, i < 2 * (k + 1) → (i < 2 * k ∧ grow2 G k g1 g2 i = G i) ∨ (i = 2 * k ∧ grow2 G k g1 g2 i = g1) ∨ (i = 2 * k + 1 ∧ grow2 G k g1 g2 i = g2) := fun i hi => by
    rcases Nat.lt_trichotomy i (2 * k) with h | h | h
    · exact .inl ⟨h, grow2_lt h⟩
    · exact .inr (.inl ⟨h, h ▸ grow2_0 G k g1 g2⟩)
    · obtain rfl : i = 2 * k + 1 := by omega
      exact .inr (.inr ⟨rfl, grow2_1 G k g1 g2⟩)
  refine ⟨fun i hi => ?_, fun i hi => ?_, fun i j hij hj => ?_⟩
  · rcases hv i hi with ⟨a, e⟩ | ⟨a, e⟩ | ⟨a, e⟩ <;> rw [e]
    · exact h.lo i a
    · omega
    · omega
  · rcases hv i hi with ⟨a, e⟩ | ⟨a, e⟩ | ⟨a, e⟩ <;> rw [e]
    · have := h.hi i a
      omega
    · omega
    · omega
  · rcases hv j hj with ⟨a, e⟩ | ⟨a, e⟩ | ⟨a, e⟩ <;> rcases hv i (by omega) with ⟨a', e'⟩ | ⟨a', e'⟩ | ⟨a', e'⟩ <;> rw [e, e']
    · exact h.ne i j hij a
    · omega
    · omega
    · have := h.hi i a'
      omega
    · omega
    · omega
    · have := h.hi i a'
      omega
    · exact hne
    · omega
/-- The items without marks; nothing of a list that is not valid. -/
def clnIm (x : Im) : Im := ⟨none, 0, none, 0, x.ns, zer x.ns.length, x.late⟩
noncomputable def clnF (xs : List Im) : List Im := @ite _ (ListOk xs) (Classical.propDecidable _) (xs.map clnIm) []
theorem clnF_yes {xs : List Im} (h : ListOk xs) : clnF xs = xs.map clnIm := by unfold clnF; rw [if_pos h]
theorem clnF_no {xs : List Im} (h : ¬ ListOk xs) : clnF xs = [] := by unfold clnF; rw [if_neg h]
theorem cln_it (xs : List Im) (i : Nat) (hi : i < xs.length) : it (xs.map clnIm) i = clnIm (it xs i) := by
  unfold it
  simp [hi]
/-- What the loop has built is a list of its own. -/
theorem cln_own {S : Nat → Prop} {w : World} {xs ys : List Im} {G : Nat → Nat} {R : Option Addr} {g B : Nat} (hok : ListOk xs) (hy : ys.length = xs.length) (h : ClnTo w xs ys G xs.length) (ha : Apart G B w.heap.size (2 * xs.length)) (hr : Owned (fun i => i = g) w R ys) (hg : ∀ i, i < 2 * xs.length → G i ≠ g) (hs : 0 < ys.length → S g) (hS : ∀ i, B ≤ i → i < w.heap.size → S i) : SameS (clnF xs) ys ∧ ImsOwn S w R g G ys := by
  refine ⟨⟨by rw [clnF_yes hok, List.length_map, hy], fun i hi => ?_⟩, hr, fun i hi => ?_, fun i hi => ?_, fun i hi => hg i (by omega), fun i j h1 h2 => ha.ne i j h1 (by omega), hs, fun i hi => hS _ (ha.lo i (by omega)) (ha.hi i (by omega))⟩
  · rw [clnF_yes hok, List.length_map] at hi
    rw [clnF_yes hok, cln_it xs i hi]
    exact ⟨(h i hi).ns, (h i hi).ms, (h i hi).late⟩
  · have hc := h i (by omega)
    rw [hc.A, hc.ns]
    exact fun _ => ⟨_, 0, rfl, rfl, ha.hi _ (by omega), hc.o1⟩
  · have hc := h i (by omega)
    rw [hc.L, hc.ms]
    exact fun _ => ⟨_, 0, rfl, rfl, ha.hi _ (by omega), hc.o2⟩
theorem im_one (ys : List Im) : ∀ u ∈ ys.flatMap Flat.cells, u.oneCell' = true := fun u hu => by
  obtain ⟨x, _, hx⟩ := List.mem_flatMap.1 hu
  have hx' : u ∈ Im.cs x := hx
  simp [Im.cs] at hx'
  rcases hx' with rfl | rfl | rfl <;> rfl
theorem im_one1 (y : Im) : ∀ u ∈ Im.cs y, u.oneCell' = true := fun u hu => im_one [y] u (List.mem_flatMap.2 ⟨y, by simp, hu⟩)
theorem im_news {W : World} {b : Nat} {y : Im} (h0 : W.cell? ⟨b, 0, none⟩ = some (.slice y.A y.ns.length y.c)) (h1 : W.cell? ⟨b, 1, none⟩ = some (.slice y.L y.ms.length y.d)) (h2 : W.cell? ⟨b, 2, none⟩ = some (.bool y.late)) : ∀ j u, (Im.cs y)[j]? = some u → W.cell? ((⟨b, 0, none⟩ : Addr).add j) = some u := fun j u hj => by
  match j, hj with
  | 0, hj => obtain rfl := Option.some.inj hj; exact h0
  | 1, hj => obtain rfl := Option.some.inj hj; exact h1
  | 2, hj => obtain rfl := Option.some.inj hj; exact h2
theorem own_form {w : World} {B : Nat} {e : TypeId} {v : Value} (ys : List Im) (h : w.ownsRow B e (Flat.sz Im) v ys.length (ys.flatMap Flat.cells)) : ∃ R d g, v = .slice R ys.length d ∧ Owned (fun i => i = g) w R ys ∧ (0 < ys.length → B ≤ g ∧ g < w.heap.size ∧ v.ownBlock = some g) := by
  rcases h.2 with ⟨hv, h0⟩ | ⟨g, cap, cur, rfl, h3, h4, h5⟩
  · exact ⟨none, 0, 0, by rw [hv, h0], fun hp => absurd hp (by omega), fun hp => absurd hp (by omega)⟩
  · have hlt := h.lt g rfl
    exact ⟨some ⟨g, 0, none⟩, cap, g, rfl, fun _ => ⟨g, 0, rfl, rfl, hlt.2, own_of_row ys h⟩, fun _ => ⟨hlt.1, hlt.2, rfl⟩⟩
/-- One item more: what the append leaves. -/
theorem cln_step {w1 wr w2 w3 w4 : World} {xs ys : List Im} {G : Nat → Nat} {k g1 g2 : Nat} {y : Im} {v v1 : Value} {e : TypeId} {ob : Obj}
    (hy : ys.length = k) (hO : wr.ownsRow w1.heap.size e 3 v k (ys.flatMap Flat.cells)) (hC : ClnTo wr xs ys G k) (hA : Apart G w1.heap.size wr.heap.size (2 * k)) (hN : ∀ i, i < 2 * k → v.ownBlock ≠ some (G i)) (hB : Below w1.heap.size w1 wr)
    (hb2 : Below wr.heap.size wr w2) (hq : (wr.heap.size ≤ g1 ∧ wr.heap.size ≤ g2) ∧ g1 ≠ g2 ∧ g1 < w2.heap.size ∧ g2 < w2.heap.size) (h3 : w3 = w2.alloc ob) (hy2 : ClnAt w2 (it xs k) y g1 g2)
    (hgrow : w3.grownBy w4 v.ownBlock) (hat : v1.ownBlock = v.ownBlock ∨ v1.ownBlock = some w3.heap.size) :
    Below w1.heap.size w1 w4 ∧ ClnTo w4 xs (ys ++ [y]) (grow2 G k g1 g2) (k + 1) ∧ Apart (grow2 G k g1 g2) w1.heap.size w4.heap.size (2 * (k + 1)) ∧ (∀ i, i < 2 * (k + 1) → v1.ownBlock ≠ some (grow2 G k g1 g2 i)) := by
  obtain ⟨⟨l1, l2⟩, lne, l3, l4⟩ := hq
  have s3 : w3.heap.size = w2.heap.size + 1 := by rw [h3]; simp
  have b3 : ∀ i, i < w2.heap.size → w3.heap[i]? = w2.heap[i]? := fun i hi => by
    rw [h3]
    exact (below_alloc w2 ob).block i hi
  have hsz := hgrow.size
  have hbs := hB.size
  have hb2s := hb2.size
  have hv : ∀ m, v.ownBlock = some m → m < wr.heap.size := fun m e => (hO.lt m e).2
  have k4 : ∀ i, i < 2 * k → w4.heap[G i]? = wr.heap[G i]? := fun i hi => by
    have h1 := hA.hi i hi
    rw [hgrow.block _ (by omega) (fun q => hN i hi q.symm), b3 _ (by omega)]
    exact hb2.block _ h1
  have kn : ∀ g, wr.heap.size ≤ g → g < w2.heap.size → w4.heap[g]? = w2.heap[g]? := fun g h1 h2 => by
    rw [hgrow.block _ (by omega) (fun q => by have := hv g q.symm; omega), b3 _ h2]
  refine ⟨?_, (hC.keep k4).snoc hy (hy2.keep (kn g1 l1 l3) (kn g2 l2 l4)), hA.grow' hbs l1 l2 lne (by omega) (by omega), fun i hi => ?_⟩
  · have h0 : Below w1.heap.size w1 w3 := by
      rw [h3]
      exact below_next (below_next hB hb2) (below_alloc _ _)
    exact Below.grown h0 hgrow (by omega) (fun m e => (hO.lt m e).1)
  · have hc : (i < 2 * k ∧ grow2 G k g1 g2 i = G i) ∨ (grow2 G k g1 g2 i = g1) ∨ (grow2 G k g1 g2 i = g2) := by
      rcases Nat.lt_trichotomy i (2 * k) with h | h | h
      · exact .inl ⟨h, grow2_lt h⟩
      · exact .inr (.inl (h ▸ grow2_0 G k g1 g2))
      · obtain rfl : i = 2 * k + 1 := by omega
        exact .inr (.inr (grow2_1 G k g1 g2))
    rcases hat with h | h
    · rw [h]
      rcases hc with ⟨h1, h2⟩ | h2 | h2 <;> rw [h2]
      · exact hN i h1
      · exact fun q => by have := hv _ q; omega
      · exact fun q => by have := hv _ q; omega
    · rw [h]
      intro q
      injection q with q
      rcases hc with ⟨h1, h2⟩ | h2 | h2
      · have := hA.hi i h1
        omega
      · omega
      · omega
end Go.Proofs.YtnlcdfaojcnkpaaDoor

namespace Go.Proofs.YtnlcdfaojcnkpaaDoor
open Go.ChangeShapes Go.WideShapes Go.ChangeAt Go.RowKit Go.PlainAid
set_option linter.unusedVariables false

abbrev Bs := List UInt8
def toB (l : Bs) : ByteArray := ⟨l.toArray⟩
def toL (b : ByteArray) : Bs := b.data.toList
theorem toB_toL (b : ByteArray) : toB (toL b) = b := by
  apply ByteArray.ext
  simp [toB, toL]
theorem toL_toB (l : Bs) : toL (toB l) = l := by simp [toB, toL]
theorem toL_eq (b : ByteArray) : b.toList = toL b := Go.ByteArray.toList_eq b
theorem blt_irrefl (a : Bs) : ¬ a < a := List.lt_irrefl a
theorem blt_trans {a b c : Bs} (h : a < b) (k : b < c) : a < c := List.lt_trans h k
theorem blt_total (a b : Bs) : a < b ∨ a = b ∨ b < a := by
  by_cases h : a < b
  · exact .inl h
  · by_cases k : b < a
    · exact .inr (.inr k)
    · exact .inr (.inl (List.le_antisymm (List.not_lt.1 k) (List.not_lt.1 h)))
theorem ble_iff (a b : Bs) : a ≤ b ↔ ¬ b < a := List.not_lt.symm
/-- Strictly increasing. -/
def Strict (l : List Bs) : Prop := l.Pairwise (· < ·)
theorem strict_unique : ∀ (a b : List Bs), Strict a → Strict b → (∀ x, x ∈ a ↔ x ∈ b) → a = b
  | [], [], _, _, _ => rfl
  | [], y :: b, _, _, h => absurd ((h y).2 (by simp)) (by simp)
  | x :: a, [], _, _, h => absurd ((h x).1 (by simp)) (by simp)
  | x :: a, y :: b, ha, hb, h => by
    have ha' := List.pairwise_cons.1 ha
    have hb' := List.pairwise_cons.1 hb
    have hxy : x = y := by
      rcases List.mem_cons.1 ((h x).1 (by simp)) with e | e
      · exact e
      · rcases List.mem_cons.1 ((h y).2 (by simp)) with e2 | e2
        · exact e2.symm
        · exact absurd (blt_trans (ha'.1 y e2) (hb'.1 x e)) (blt_irrefl x)
    subst hxy
    rw [strict_unique a b ha'.2 hb'.2 fun z => ?_]
    constructor
    · intro hz
      rcases List.mem_cons.1 ((h z).1 (List.mem_cons_of_mem _ hz)) with e | e
      · subst e
        exact absurd (ha'.1 z hz) (blt_irrefl z)
      · exact e
    · intro hz
      rcases List.mem_cons.1 ((h z).2 (List.mem_cons_of_mem _ hz)) with e | e
      · subst e
        exact absurd (hb'.1 z hz) (blt_irrefl z)
      · exact e
/-- What the compaction of the first m places of a sorted list is. -/
theorem compact_upTo (d : Array Bs) (hs : ∀ i j : Nat, i < j → j < d.size → ¬ d[j]! < d[i]!) : ∀ m, m ≤ d.size → Strict (Lib.compactUpTo d m) ∧ ∀ x, x ∈ Lib.compactUpTo d m ↔ ∃ j, j < m ∧ d[j]! = x
  | 0, _ => by
    have e : Lib.compactUpTo d 0 = [] := rfl
    rw [e]
    exact ⟨List.Pairwise.nil, fun x => ⟨fun h => absurd h (by simp), fun ⟨j, hj, _⟩ => absurd hj (by omega)⟩⟩
  | m + 1, hm => by
    obtain ⟨h1, h2⟩ := compact_upTo d hs m (by omega)
    rw [Lib.compactUpTo_succ]
    by_cases hk : m = 0 ∨ d[m]! ≠ d[m - 1]!
    · have hkeep : Lib.keeps d m = true := by simp [Lib.keeps, hk]
      rw [hkeep, if_pos rfl]
      refine ⟨List.pairwise_append.2 ⟨h1, by simp, fun a ha b hb => ?_⟩, fun x => ?_⟩
      · obtain rfl := List.mem_singleton.1 hb
        obtain ⟨j, hj, rfl⟩ := (h2 a).1 ha
        rcases blt_total d[j]! d[m]! with h | h | h
        · exact h
        · rcases hk with e | e
          · omega
          · exfalso
            rcases Nat.lt_or_ge j (m - 1) with q | q
            · have q1 := hs j (m - 1) q (by omega)
              have q2 := hs (m - 1) m (by omega) (by omega)
              rcases blt_total d[m - 1]! d[m]! with r | r | r
              · rw [← h] at r
                exact q1 r
              · exact e r.symm
              · exact q2 r
            · obtain rfl : j = m - 1 := by omega
              exact e h.symm
        · exact absurd h (hs j m hj (by omega))
      · rw [List.mem_append, h2 x, List.mem_singleton]
        constructor
        · rintro (⟨j, hj, e⟩ | e)
          · exact ⟨j, by omega, e⟩
          · exact ⟨m, by omega, e.symm⟩
        · rintro ⟨j, hj, e⟩
          rcases Nat.lt_or_ge j m with q | q
          · exact .inl ⟨j, q, e⟩
          · obtain rfl : j = m := by omega
            exact .inr e.symm
    · have hkeep : Lib.keeps d m = false := by simp [Lib.keeps, hk]
      have hk1 : d[m]! = d[m - 1]! := Classical.byContradiction (fun e => hk (.inr e))
      have hk0 : m ≠ 0 := fun e => hk (.inl e)
      rw [hkeep]
      simp only [Bool.false_eq_true, if_false, List.append_nil]
      refine ⟨h1, fun x => ?_⟩
      rw [h2 x]
      constructor
      · rintro ⟨j, hj, e⟩
        exact ⟨j, by omega, e⟩
      · rintro ⟨j, hj, e⟩
        rcases Nat.lt_or_ge j m with q | q
        · exact ⟨j, q, e⟩
        · obtain rfl : j = m := by omega
          exact ⟨j - 1, by omega, by rw [← hk1]; exact e⟩
abbrev srt (N : List Bs) : List Bs := N.mergeSort fun x y => decide (x ≤ y)
theorem srt_len (N : List Bs) : (srt N).length = N.length := List.length_mergeSort N
theorem srt_mem (N : List Bs) (x : Bs) : x ∈ srt N ↔ x ∈ N := List.mem_mergeSort
theorem srt_sorted (N : List Bs) : (srt N).Pairwise (fun x y => ¬ y < x) := by
  have h := List.pairwise_mergeSort (le := fun x y : Bs => decide (x ≤ y)) (fun a b c h1 h2 => by
    simp only [decide_eq_true_eq] at h1 h2 ⊢
    exact List.le_trans h1 h2) (fun a b => by
    simp only [Bool.or_eq_true, decide_eq_true_eq]
    exact List.le_total a b) N
  exact h.imp (fun {a b} h => by
    simp only [decide_eq_true_eq] at h
    exact (ble_iff a b).1 h)
/-- Each one once, in their order. -/
def unq (N : List Bs) : List Bs := Lib.compact (srt N)
theorem unq_is (N : List Bs) : Strict (unq N) ∧ ∀ x, x ∈ unq N ↔ x ∈ N := by
  have h := compact_upTo (srt N).toArray (fun i j hij hj => by
    have hj' : j < (srt N).length := by simpa using hj
    have := List.pairwise_iff_getElem.1 (srt_sorted N) i j (by omega) hj' hij
    rw [getElem!_pos (srt N).toArray j hj, getElem!_pos (srt N).toArray i (Nat.lt_trans hij hj)]
    simpa using this) (srt N).length (by simp)
  refine ⟨h.1, fun x => ?_⟩
  have h2 := h.2 x
  rw [show unq N = Lib.compactUpTo (srt N).toArray (srt N).length from rfl, h2, ← srt_mem N x]
  constructor
  · rintro ⟨j, hj, rfl⟩
    rw [getElem!_pos _ j (by simpa using hj)]
    simp
  · intro hx
    obtain ⟨j, hj, rfl⟩ := List.getElem_of_mem hx
    exact ⟨j, hj, by rw [getElem!_pos _ j (by simpa using hj)]; simp⟩
theorem unq_len (N : List Bs) : (unq N).length ≤ N.length := by
  have := Lib.compact_length_le (srt N)
  rw [srt_len] at this
  exact this

/-- A list that holds the names of N, each one once, in their order. -/
structure UOf (N : List Bs) (L : List Bs) : Prop where
  str : Strict L
  mem : ∀ x, x ∈ L ↔ x ∈ N
theorem UOf.eq {N L : List Bs} (h : UOf N L) : L = unq N := strict_unique L _ h.str (unq_is N).1 (fun x => (h.mem x).trans ((unq_is N).2 x).symm)
theorem UOf.nil : UOf [] [] := ⟨List.Pairwise.nil, fun x => Iff.rfl⟩
theorem UOf.seen {N L : List Bs} {x : Bs} (h : UOf N L) (hx : x ∈ L) : UOf (N ++ [x]) L := ⟨h.str, fun y => by
  rw [List.mem_append, List.mem_singleton, ← h.mem y]
  exact ⟨.inl, fun q => q.elim id (fun e => e ▸ hx)⟩⟩
theorem UOf.put {N L : List Bs} {x : Bs} (h : UOf N L) (k : Nat) (hk : k ≤ L.length) (h1 : ∀ y, y ∈ L.take k → y < x) (h2 : ∀ y, y ∈ L.drop k → x < y) : UOf (N ++ [x]) (L.take k ++ x :: L.drop k) := by
  refine ⟨?_, fun y => ?_⟩
  · have hp : Strict (L.take k ++ L.drop k) := by rw [List.take_append_drop]; exact h.str
    obtain ⟨p1, p2, p3⟩ := List.pairwise_append.1 hp
    refine List.pairwise_append.2 ⟨p1, List.pairwise_cons.2 ⟨h2, p2⟩, fun a ha b hb => ?_⟩
    rcases List.mem_cons.1 hb with e | e
    · exact e ▸ h1 a ha
    · exact p3 a ha b e
  · rw [List.mem_append, List.mem_append, List.mem_cons, List.mem_singleton, ← h.mem y]
    have e : y ∈ L ↔ y ∈ L.take k ∨ y ∈ L.drop k := by
      rw [← List.mem_append, List.take_append_drop]
    rw [e]
    constructor
    · rintro (q | q | q)
      · exact .inl (.inl q)
      · exact .inr q
      · exact .inl (.inr q)
    · rintro ((q | q) | q)
      · exact .inl q
      · exact .inr (.inr q)
      · exact .inr (.inl q)
end Go.Proofs.YtnlcdfaojcnkpaaDoor

namespace Go.Proofs.YtnlcdfaojcnkpaaDoor
open Go.ChangeShapes Go.WideShapes Go.ChangeAt Go.RowKit Go.PlainAid
set_option linter.unusedVariables false

/-- The names of the first k items. -/
def namesTo (xs : List Im) : Nat → List Bs
  | 0 => []
  | k + 1 => namesTo xs k ++ (it xs k).ns.map toL
def allN (xs : List Im) : List Bs := namesTo xs xs.length
noncomputable def nmF (xs : List Im) : List ByteArray := @ite _ (ListOk xs) (Classical.propDecidable _) ((unq (allN xs)).map toB) []
theorem nmF_yes {xs : List Im} (h : ListOk xs) : nmF xs = (unq (allN xs)).map toB := by unfold nmF; rw [if_pos h]
theorem nmF_no {xs : List Im} (h : ¬ ListOk xs) : nmF xs = [] := by unfold nmF; rw [if_neg h]
theorem namesTo_same {xs ys : List Im} (h : SameS xs ys) : ∀ k, k ≤ xs.length → namesTo ys k = namesTo xs k
  | 0, _ => rfl
  | k + 1, hk => by rw [namesTo, namesTo, namesTo_same h k (by omega), (h.each k (by omega)).ns]
theorem nmF_same {xs ys : List Im} (h : SameS xs ys) : nmF ys = nmF xs := by
  by_cases k : ListOk xs
  · rw [nmF_yes k, nmF_yes (k.same h)]
    unfold allN
    rw [h.len, namesTo_same h _ (Nat.le_refl _)]
  · rw [nmF_no k, nmF_no (fun q => k (q.same h.symm))]
theorem namesTo_len (xs : List Im) (hl : ListOk xs) : ∀ k, k ≤ xs.length → k ≤ (namesTo xs k).length ∧ (namesTo xs k).length ≤ 3 * k
  | 0, _ => by simp [namesTo]
  | k + 1, hk => by
    have h1 := namesTo_len xs hl k (by omega)
    have h2 := (hl.each k (by omega)).hi
    have h3 := (hl.each k (by omega)).lo
    rw [namesTo, List.length_append, List.length_map]
    omega
theorem nmF_small (xs : List Im) : Short (nmF xs) := ⟨by
  by_cases k : ListOk xs
  · rw [nmF_yes k, List.length_map]
    have h1 := unq_len (allN xs)
    have h2 := (namesTo_len xs k xs.length (Nat.le_refl _)).2
    have h3 := k.len
    unfold allN at h1 ⊢
    omega
  · rw [nmF_no k]
    simp⟩

abbrev eS : Bs → Value := encStr
theorem eS_toL (b : ByteArray) : eS (toL b) = .string b := by
  show Value.string ⟨(toL b).toArray⟩ = _
  congr 1
/-- The head of a block holds some texts, and may be written. -/
def SRow (w : World) (g : Nat) (zs : List Bs) : Prop := Sort.Holds eS w g 0 zs.toArray
theorem SRow.own {w : World} {g : Nat} {zs : List Bs} (h : SRow w g zs) : OwnAt w g 0 (zs.map toB) := by
  have hi : ∀ i, i < zs.length → it (zs.map toB) i = toB (zs.toArray[i]!) := fun i hi => by
    unfold it
    rw [getElem!_pos _ i (by simpa using hi)]
    simp [hi]
  refine ⟨fun i hil j v hv => ?_, fun i j hil hj => ?_⟩
  · rw [List.length_map] at hil
    match j, hv with
    | 0, hv =>
      have e : Value.string (it (zs.map toB) i) = v := by injection hv
      rw [← e, hi i hil]
      have := (h i (by simpa using hil)).1
      rw [show 0 + i * Flat.sz ByteArray + 0 = 0 + i by show 0 + i * 1 + 0 = _; omega]
      exact this
  · rw [List.length_map] at hil
    have hj0 : j = 0 := by
      have : j < 1 := hj
      omega
    subst hj0
    rw [show 0 + i * Flat.sz ByteArray + 0 = 0 + i by show 0 + i * 1 + 0 = _; omega]
    exact (h i (by simpa using hil)).2
theorem SRow.of_own {w : World} {B g c : Nat} {e : TypeId} {zs : List Bs} (h : w.ownsRow B e 1 (.slice (some ⟨g, 0, none⟩) zs.length c) zs.length (zs.map eS)) : SRow w g zs := fun j hj => by
  have hj' : j < zs.length := by simpa using hj
  rw [Nat.zero_add]
  refine ⟨?_, h.frozenAt j⟩
  rw [h.cellAt j (by omega), getElem!_pos _ j hj]
  simp [hj']
theorem row_cap {w : World} {B g c n : Nat} {e : TypeId} {cs : List Value} (h : w.ownsRow B e 1 (.slice (some ⟨g, 0, none⟩) n c) n cs) : n ≤ c := by
  rcases h.2 with ⟨h, _⟩ | ⟨g', cap', cur, h, _, _, h', _⟩
  · cases h
  · cases h
    exact h'
theorem below_mapBlock {w : World} {g q : Nat} {d : Array Bs} : Below g w (Sort.putRow eS (Sort.ahead w q) g 0 d) := by
  refine ⟨rfl, rfl, rfl, by simp, fun k hk => ?_⟩
  unfold Sort.putRow Sort.mapBlock
  simp only [Array.getElem?_modify]
  rw [if_neg (by omega)]
  rfl
theorem map_eS (l : List ByteArray) : (l.map toL).map eS = l.map Value.string := by
  rw [List.map_map]
  exact List.map_congr_left (fun b _ => eS_toL b)
end Go.Proofs.YtnlcdfaojcnkpaaDoor
