/- The callers of a name: sorted and compacted, or put in one by one. -/
import Derived.Test.YthbkfekbpjkhnaaHiF
import Derived.Test.YthbkfekbpjkhnaaShelf
namespace Go.Proofs.Ythbkfekbpjkhnaa
open Go.ChangeShapes Go.WideShapes Go.ChangeAt Go.RowKit Go.PlainAid
set_option linter.unusedVariables false

theorem one_newsI {W : World} {p : Addr} {x : Value} (h : W.cell? p = some x) : ∀ j u, [x][j]? = some u → W.cell? (p.add j) = some u := fun j u hj => by
  match j, hj with
  | 0, hj => obtain rfl := Option.some.inj hj; exact h
/-- Risly increasing. -/
def Ris (l : List Int) : Prop := l.Pairwise (· < ·)
theorem ris_unique : ∀ (a b : List Int), Ris a → Ris b → (∀ x, x ∈ a ↔ x ∈ b) → a = b
  | [], [], _, _, _ => rfl
  | [], y :: b, _, _, h => absurd ((h y).2 (by simp)) (by simp)
  | x :: a, [], _, _, h => absurd ((h x).1 (by simp)) (by simp)
  | x :: a, y :: b, ha, hb, h => by
    have ha' := List.pairwise_cons.1 ha
    have hb' := List.pairwise_cons.1 hb
    have hxy : x = y := by
      rcases List.mem_cons.1 ((h x).1 (by simp)) with e | e
      · exact e
      · rcases List.mem_cons.1 ((h y).2 (by simp)) with e2 | e2
        · exact e2.symm
        · exact absurd (Int.lt_trans (ha'.1 y e2) (hb'.1 x e)) (Int.lt_irrefl x)
    subst hxy
    rw [ris_unique a b ha'.2 hb'.2 fun z => ?_]
    constructor
    · intro hz
      rcases List.mem_cons.1 ((h z).1 (List.mem_cons_of_mem _ hz)) with e | e
      · subst e
        exact absurd (ha'.1 z hz) (Int.lt_irrefl z)
      · exact e
    · intro hz
      rcases List.mem_cons.1 ((h z).2 (List.mem_cons_of_mem _ hz)) with e | e
      · subst e
        exact absurd (hb'.1 z hz) (Int.lt_irrefl z)
      · exact e
/-- What the compaction of the first m places of a sorted list is. -/
theorem compact_upToI (d : Array Int) (hs : ∀ i j : Nat, i < j → j < d.size → ¬ d[j]! < d[i]!) : ∀ m, m ≤ d.size → Ris (Lib.compactUpTo d m) ∧ ∀ x, x ∈ Lib.compactUpTo d m ↔ ∃ j, j < m ∧ d[j]! = x
  | 0, _ => by
    have e : Lib.compactUpTo d 0 = [] := rfl
    rw [e]
    exact ⟨List.Pairwise.nil, fun x => ⟨fun h => absurd h (by simp), fun ⟨j, hj, _⟩ => absurd hj (by omega)⟩⟩
  | m + 1, hm => by
    obtain ⟨h1, h2⟩ := compact_upToI d hs m (by omega)
    rw [Lib.compactUpTo_succ]
    by_cases hk : m = 0 ∨ d[m]! ≠ d[m - 1]!
    · have hkeep : Lib.keeps d m = true := by simp [Lib.keeps, hk]
      rw [hkeep, if_pos rfl]
      refine ⟨List.pairwise_append.2 ⟨h1, by simp, fun a ha b hb => ?_⟩, fun x => ?_⟩
      · obtain rfl := List.mem_singleton.1 hb
        obtain ⟨j, hj, rfl⟩ := (h2 a).1 ha
        rcases Int.lt_trichotomy d[j]! d[m]! with h | h | h
        · exact h
        · rcases hk with e | e
          · omega
          · exfalso
            rcases Nat.lt_or_ge j (m - 1) with q | q
            · have q1 := hs j (m - 1) q (by omega)
              have q2 := hs (m - 1) m (by omega) (by omega)
              rcases Int.lt_trichotomy d[m - 1]! d[m]! with r | r | r
              · rw [← h] at r
                exact q1 r
              · exact e r.symm
              · exact q2 r
            · obtain rfl : j = m - 1 := by omega
              exact e h.symm
        · exact absurd h (hs j m hj (by omega))
      · rw [List.mem_append, h2 x, List.mem_singleton]
        constructor
        · rintro (⟨j, hj, e⟩ | e)
          · exact ⟨j, by omega, e⟩
          · exact ⟨m, by omega, e.symm⟩
        · rintro ⟨j, hj, e⟩
          rcases Nat.lt_or_ge j m with q | q
          · exact .inl ⟨j, q, e⟩
          · obtain rfl : j = m := by omega
            exact .inr e.symm
    · have hkeep : Lib.keeps d m = false := by simp [Lib.keeps, hk]
      have hk1 : d[m]! = d[m - 1]! := Classical.byContradiction (fun e => hk (.inr e))
      have hk0 : m ≠ 0 := fun e => hk (.inl e)
      rw [hkeep]
      simp only [Bool.false_eq_true, if_false, List.append_nil]
      refine ⟨h1, fun x => ?_⟩
      rw [h2 x]
      constructor
      · rintro ⟨j, hj, e⟩
        exact ⟨j, by omega, e⟩
      · rintro ⟨j, hj, e⟩
        rcases Nat.lt_or_ge j m with q | q
        · exact ⟨j, q, e⟩
        · obtain rfl : j = m := by omega
          exact ⟨j - 1, by omega, by rw [← hk1]; exact e⟩
abbrev srtI (N : List Int) : List Int := N.mergeSort fun x y => decide (x ≤ y)
theorem srtI_len (N : List Int) : (srtI N).length = N.length := List.length_mergeSort N
theorem srtI_mem (N : List Int) (x   : Int) : x ∈ srtI N ↔ x ∈ N := List.mem_mergeSort
theorem srtI_sorted (N : List Int) : (srtI N).Pairwise (fun x y => ¬ y < x) := by
  have h := List.pairwise_mergeSort (le := fun x y   : Int => decide (x ≤ y)) (fun a b c h1 h2 => by
    simp only [decide_eq_true_eq] at h1 h2 ⊢
    exact Int.le_trans h1 h2) (fun a b => by
    simp only [Bool.or_eq_true, decide_eq_true_eq]
    exact Int.le_total a b) N
  exact h.imp (fun {a b} h => by
    simp only [decide_eq_true_eq] at h
    exact Int.not_lt.2 h)
/-- Each one once, in their order. -/
def unqI (N : List Int) : List Int := Lib.compact (srtI N)
theorem unqI_is (N : List Int) : Ris (unqI N) ∧ ∀ x, x ∈ unqI N ↔ x ∈ N := by
  have h := compact_upToI (srtI N).toArray (fun i j hij hj => by
    have hj' : j < (srtI N).length := by simpa using hj
    have := List.pairwise_iff_getElem.1 (srtI_sorted N) i j (by omega) hj' hij
    rw [getElem!_pos (srtI N).toArray j hj, getElem!_pos (srtI N).toArray i (Nat.lt_trans hij hj)]
    simpa using this) (srtI N).length (by simp)
  refine ⟨h.1, fun x => ?_⟩
  have h2 := h.2 x
  rw [show unqI N = Lib.compactUpTo (srtI N).toArray (srtI N).length from rfl, h2, ← srtI_mem N x]
  constructor
  · rintro ⟨j, hj, rfl⟩
    rw [getElem!_pos _ j (by simpa using hj)]
    simp
  · intro hx
    obtain ⟨j, hj, rfl⟩ := List.getElem_of_mem hx
    exact ⟨j, hj, by rw [getElem!_pos _ j (by simpa using hj)]; simp⟩
theorem unqI_len (N : List Int) : (unqI N).length ≤ N.length := by
  have := Lib.compact_length_le (srtI N)
  rw [srtI_len] at this
  exact this

/-- A list that holds the names of N, each one once, in their order. -/
structure UOI (N : List Int) (L : List Int) : Prop where
  str : Ris L
  mem : ∀ x, x ∈ L ↔ x ∈ N
theorem UOI.eq {N L : List Int} (h : UOI N L) : L = unqI N := ris_unique L _ h.str (unqI_is N).1 (fun x => (h.mem x).trans ((unqI_is N).2 x).symm)
theorem UOI.nil : UOI [] [] := ⟨List.Pairwise.nil, fun x => Iff.rfl⟩
theorem UOI.seen {N L : List Int} {x   : Int} (h : UOI N L) (hx : x ∈ L) : UOI (N ++ [x]) L := ⟨h.str, fun y => by
  rw [List.mem_append, List.mem_singleton, ← h.mem y]
  exact ⟨.inl, fun q => q.elim id (fun e => e ▸ hx)⟩⟩
theorem UOI.put {N L : List Int} {x   : Int} (h : UOI N L) (k : Nat) (hk : k ≤ L.length) (h1 : ∀ y, y ∈ L.take k → y < x) (h2 : ∀ y, y ∈ L.drop k → x < y) : UOI (N ++ [x]) (L.take k ++ x :: L.drop k) := by
  refine ⟨?_, fun y => ?_⟩
  · have hp : Ris (L.take k ++ L.drop k) := by rw [List.take_append_drop]; exact h.str
    obtain ⟨p1, p2, p3⟩ := List.pairwise_append.1 hp
    refine List.pairwise_append.2 ⟨p1, List.pairwise_cons.2 ⟨h2, p2⟩, fun a ha b hb => ?_⟩
    rcases List.mem_cons.1 hb with e | e
    · exact e ▸ h1 a ha
    · exact p3 a ha b e
  · rw [List.mem_append, List.mem_append, List.mem_cons, List.mem_singleton, ← h.mem y]
    have e : y ∈ L ↔ y ∈ L.take k ∨ y ∈ L.drop k := by
      rw [← List.mem_append, List.take_append_drop]
    rw [e]
    constructor
    · rintro (q | q | q)
      · exact .inl (.inl q)
      · exact .inr q
      · exact .inl (.inr q)
    · rintro ((q | q) | q)
      · exact .inl q
      · exact .inr (.inr q)
      · exact .inr (.inl q)
theorem mem_itR {l : List Int} {v : Int} (h : v ∈ l) : ∃ q, q < l.length ∧ it l q = v := by
  obtain ⟨q, hq, e⟩ := List.getElem_of_mem h
  exact ⟨q, hq, by simp [it, List.getD_eq_getElem?_getD, hq, e]⟩
theorem ris_it {l : List Int} (h : Ris l) {p q : Nat} (h1 : p < q) (h2 : q < l.length) : it l p < it l q := by
  have := List.pairwise_iff_getElem.1 h p q (by omega) h2 h1
  simpa [it, List.getD_eq_getElem?_getD, h2, show p < l.length by omega] using this
theorem put_ris {l : List Int} {u : Int} {i : Nat} (h : Ris l) (h1 : ∀ q, q < i → it l q < u) (h2 : i < l.length → u < it l i) : Ris (l.take i ++ u :: l.drop i) := by
  have ht : ∀ v, v ∈ l.take i → v < u := fun v hv => by
    obtain ⟨q, hq, e⟩ := mem_itR hv
    rw [List.length_take] at hq
    rw [← e]
    have : it (l.take i) q = it l q := by simp [it, List.getD_eq_getElem?_getD, show q < i by omega]
    rw [this]
    exact h1 q (by omega)
  have hd : ∀ v, v ∈ l.drop i → u < v := fun v hv => by
    obtain ⟨q, hq, e⟩ := mem_itR hv
    rw [List.length_drop] at hq
    rw [← e]
    have : it (l.drop i) q = it l (i + q) := by simp [it, List.getD_eq_getElem?_getD]
    rw [this]
    have h3 := h2 (by omega)
    by_cases e : q = 0
    · subst e
      exact h3
    · have := ris_it h (show i < i + q by omega) (by omega)
      omega
  unfold Ris at h ⊢
  rw [List.pairwise_append, List.pairwise_cons]
  exact ⟨h.sublist (List.take_sublist _ _), ⟨hd, h.sublist (List.drop_sublist _ _)⟩, fun a ha b hb => by
    rcases List.mem_cons.1 hb with e | e
    · rw [e]
      exact ht a ha
    · have := ht a ha
      have := hd b e
      omega⟩
theorem put_perm (l : List Int) (u : Int) (i : Nat) : (l.take i ++ u :: l.drop i).Perm (u :: l) := by
  have h := List.perm_middle (a := u) (l₁ := l.take i) (l₂ := l.drop i)
  rwa [List.take_append_drop] at h
theorem lst_drop {w : World} {B b o : Nat} {xs : List Int} (h : Lst w B (some ⟨b, o, none⟩) xs) (k : Nat) : Lst w B (some ⟨b, o + k, none⟩) (xs.drop k) := Lst.of_int fun hp => by
  rw [List.length_drop] at hp
  obtain ⟨b', o', e, hb, hc⟩ := h.int (by omega)
  injection e with e
  injection e with e1 e2
  subst e1
  subst e2
  refine ⟨b, o + k, rfl, hb, fun i hi => ?_⟩
  rw [List.length_drop] at hi
  have h2 := hc (k + i) (by omega)
  rw [show o + k + i = o + (k + i) by omega, h2]
  simp [it, List.getD_eq_getElem?_getD]
theorem lst_drop0 {w : World} {B b : Nat} {xs : List Int} (h : Lst w B (some ⟨b, 0, none⟩) xs) (k : Nat) : Lst w B (some ⟨b, k, none⟩) (xs.drop k) := by
  have h2 := lst_drop h k
  rwa [Nat.zero_add] at h2

set_option maxHeartbeats 8000000 in
set_option maxRecDepth 100000 in
theorem l1Put_any (B : Nat) (A : Option Addr) (c : Nat) (l : List Int) (u : Int) (w : World) (hr : Lst w w.heap.size A l) (hA : A = none → c = 0 ∧ l = []) (hcap : l.length ≤ c ∧ c ≤ 9223372036854775807) (ho0 : ∀ b o, A = some ⟨b, o, none⟩ → True) (hA2 : ∀ a, A = some a → ∃ b, a = ⟨b, 0, none⟩) (hl : l.length ≤ 1000) (hs : Ris l) (hu : ¬ u ∈ l) :
    Calls Try.prog 65 #[.slice A l.length c, .int .i64 u] w fun e w' => (∃ r v, e = .returned v ∧ w'.ownsRow w.heap.size 3 1 v r.length (r.map (Value.int .i64)) ∧ Ris r ∧ r.Perm (u :: l)) ∧ Below w.heap.size w w' := by
  have HR := Lib.hid hr
  have HS := Lib.hid hs
  have HU := Lib.hid hu
  obtain ⟨i0, hi, hz0, hz1, hz2⟩ := info_parts Try.infoInt
  have HZ := Lib.hid (And.intro hi (And.intro hz0 (And.intro hz1 hz2)))
  clear hi hz0 hz1 hz2 hr hs hu ho0
  rcases A with _ | a
  · obtain ⟨rfl, rfl⟩ := hA rfl
    go_enter Try.func65, Try.ntmps65
    go_wp2
    go_loopw [5] (fun v wr => v = .int .i64 0 ∧ wr = w) (fun _ _ => 0)
    case atStart => exact ⟨rfl, rfl⟩
    case round =>
      obtain ⟨rfl, rfl⟩ := hrel
      go_wp2_with (first
        | (at_builtin; refine wpList_append_src _ rfl (.tmp 34) (.tmp 37) 53 rfl wr.heap.size 3 i0 (.int .i64 0) 8 Try.underlying53 HZ.out.1 HZ.out.2.1 HZ.out.2.2.1 HZ.out.2.2.2 rfl (.slice (some ⟨wr.heap.size, 0, none⟩) 0 0) 0 [] rfl (owns_emptyN _ _ _ _ _ (Nat.le_refl _) (heap_at_new _ _ _ rfl)) none 0 0 ([] : List Value) rfl (by simp <;> omega) (fun h => absurd h (by simp)) (by simp) (by unfold maxLen; omega) (by omega) (by simp) ?_; intro v1 w1 hown1 hgrow1 hat1; have HO1 := Lib.hid hown1; have HB1 := Lib.hid (Below.grown (below_alloc _ _) hgrow1 (by simp) (fun kk e => by simp [Value.ownBlock] at e; omega)); clear hown1 hgrow1 hat1)
        | (at_builtin; refine wpList_append_src _ rfl (.tmp 39) (.tmp 41) 53 rfl wr.heap.size 3 i0 (.int .i64 0) 8 Try.underlying53 HZ.out.1 HZ.out.2.1 HZ.out.2.2.1 HZ.out.2.2.2 rfl v1 (0 + 0) ([] ++ ([] : List Value)) rfl (HO1.out.alloc _) (some ⟨w1.heap.size, 0, none⟩) 1 1 [.int .i64 u] rfl rfl (fun _ => ⟨_, rfl, one_newsI (by simp)⟩) (by intro y hy; simp at hy; subst hy; rfl) (by unfold maxLen; omega) (by omega) (by simp; have := HB1.out.size; omega) ?_; intro v2 w2 hown2 hgrow2 hat2; have HO2 := Lib.hid hown2; have HB2 := Lib.hid (show Below wr.heap.size wr w2 from Below.grown (HB1.out.alloc HB1.out.size _) hgrow2 (by simp; have := HB1.out.size; omega) (fun kk e => by have := (HO1.out.lt kk e).1; omega)); clear hown2 hgrow2 hat2)
        | (at_builtin; refine wpList_append_src _ rfl (.tmp 43) (.tmp 46) 53 rfl wr.heap.size 3 i0 (.int .i64 0) 8 Try.underlying53 HZ.out.1 HZ.out.2.1 HZ.out.2.2.1 HZ.out.2.2.2 rfl v2 (0 + 0 + 1) ([] ++ ([] : List Value) ++ [.int .i64 u]) rfl HO2.out none 0 0 ([] : List Value) rfl (by simp) (fun h => absurd h (by simp)) (by simp) (by unfold maxLen; omega) (by omega) (by have := HB2.out.size; omega) ?_; intro v3 w3 hown3 hgrow3 hat3; have HO3 := Lib.hid hown3; have HB3 := Lib.hid (show Below wr.heap.size wr w3 from Below.grown HB2.out hgrow3 HB2.out.size (fun kk e => (HO2.out.lt kk e).1)); clear hown3 hgrow3 hat3))
      go_ret
      exact ⟨⟨[u], v3, rfl, HO3.out, by simp [Ris], List.Perm.refl _⟩, HB3.out⟩
  · obtain ⟨b, rfl⟩ := hA2 a rfl
    clear hA hA2
    have hc2 := hcap.2
    have hc1 := hcap.1
    clear hcap
    go_enter Try.func65, Try.ntmps65
    go_wp2
    go_loopw [5] (fun v wr => ∃ i : Nat, i ≤ l.length ∧ v = .int .i64 i ∧ wr = w ∧ Hid (∀ q, q < i → it l q < u)) (fun v _ => l.length - (intOf v).toNat)
    case atStart => exact ⟨0, Nat.zero_le _, rfl, rfl, Lib.hid (fun q hq => absurd hq (by omega))⟩
    case round =>
      obtain ⟨i, hi, rfl, rfl, HQ⟩ := hrel
      by_cases hlt : i < l.length
      · obtain ⟨b', o', e, hbl, hce⟩ := HR.out.int (by omega)
        injection e with e
        injection e with e1 e2
        subst e1
        subst e2
        have c0 := hce i hlt
        rw [Nat.zero_add] at c0
        rcases Int.lt_trichotomy (it l i) u with hc | hc | hc
        · go_wp2
          go_roundw
          case rel => exact ⟨i + 1, by omega, by go_num, trivial, Lib.hid (fun q hq => by
            by_cases e : q = i
            · rw [e]; exact hc
            · exact HQ.out q (by omega))⟩
          case measure => simp [intOf]; omega
        · exact absurd (by rw [← hc]; simp [it, List.getD_eq_getElem?_getD, hlt]) HU.out
        · have hc' : u ≤ it l i := Int.le_of_lt hc
          have HP := Lib.hid (put_ris HS.out HQ.out (fun _ => hc))
          have hne : (it l i == u) = false := by simp; omega
          go_wp2_with (first
            | (at_builtin; refine wpList_append_src _ rfl (.tmp 34) (.tmp 37) 53 rfl wr.heap.size 3 i0 (.int .i64 0) 8 Try.underlying53 HZ.out.1 HZ.out.2.1 HZ.out.2.2.1 HZ.out.2.2.2 rfl (.slice (some ⟨wr.heap.size, 0, none⟩) 0 0) 0 [] rfl (owns_emptyN _ _ _ _ _ (Nat.le_refl _) (heap_at_new _ _ _ rfl)) (some ⟨b, 0, none⟩) i c ((l.take i).map (Value.int .i64)) rfl (by simp <;> omega) (fun h => lst_src (lst_take HR.out i) (below_alloc _ _) (by simp; omega)) (int_one _) (by unfold maxLen; omega) (by omega) (by simp) ?_; intro v1 w1 hown1 hgrow1 hat1; have HO1 := Lib.hid hown1; have HB1 := Lib.hid (Below.grown (below_alloc _ _) hgrow1 (by simp) (fun kk e => by simp [Value.ownBlock] at e; omega)); clear hown1 hgrow1 hat1)
            | (at_builtin; refine wpList_append_src _ rfl (.tmp 39) (.tmp 41) 53 rfl wr.heap.size 3 i0 (.int .i64 0) 8 Try.underlying53 HZ.out.1 HZ.out.2.1 HZ.out.2.2.1 HZ.out.2.2.2 rfl v1 (0 + i) ([] ++ ((l.take i).map (Value.int .i64))) rfl (HO1.out.alloc _) (some ⟨w1.heap.size, 0, none⟩) 1 1 [.int .i64 u] rfl rfl (fun _ => ⟨_, rfl, one_newsI (by simp)⟩) (by intro y hy; simp at hy; subst hy; rfl) (by unfold maxLen; omega) (by omega) (by simp; have := HB1.out.size; omega) ?_; intro v2 w2 hown2 hgrow2 hat2; have HO2 := Lib.hid hown2; have HB2 := Lib.hid (show Below wr.heap.size wr w2 from Below.grown (HB1.out.alloc HB1.out.size _) hgrow2 (by simp; have := HB1.out.size; omega) (fun kk e => by have := (HO1.out.lt kk e).1; omega)); clear hown2 hgrow2 hat2)
            | (at_builtin; refine wpList_append_src _ rfl (.tmp 43) (.tmp 46) 53 rfl wr.heap.size 3 i0 (.int .i64 0) 8 Try.underlying53 HZ.out.1 HZ.out.2.1 HZ.out.2.2.1 HZ.out.2.2.2 rfl v2 (0 + i + 1) ([] ++ ((l.take i).map (Value.int .i64)) ++ [.int .i64 u]) rfl HO2.out (some ⟨b, i, none⟩) (l.length - i) (c - i) ((l.drop i).map (Value.int .i64)) rfl (by simp) (fun h => lst_src (lst_drop0 HR.out i) HB2.out (by simp; omega)) (int_one _) (by unfold maxLen; omega) (by omega) (by have := HB2.out.size; omega) ?_; intro v3 w3 hown3 hgrow3 hat3; have HO3 := Lib.hid hown3; have HB3 := Lib.hid (show Below wr.heap.size wr w3 from Below.grown HB2.out hgrow3 HB2.out.size (fun kk e => (HO2.out.lt kk e).1)); clear hown3 hgrow3 hat3))
          go_ret
          refine ⟨⟨l.take i ++ u :: l.drop i, v3, rfl, ?_, HP.out, put_perm l u i⟩, HB3.out⟩
          have h := HO3.out
          have e1 : 0 + i + 1 + (l.length - i) = (l.take i ++ u :: l.drop i).length := by simp; omega
          have e2 : [] ++ (l.take i).map (Value.int .i64) ++ [.int .i64 u] ++ (l.drop i).map (Value.int .i64) = (l.take i ++ u :: l.drop i).map (Value.int .i64) := by simp
          rw [e1, e2] at h
          exact h
      · have hge : l.length ≤ i := by omega
        have HP := Lib.hid (put_ris HS.out HQ.out (fun h => absurd h (by omega)))
        go_wp2_with (first
          | (at_builtin; refine wpList_append_src _ rfl (.tmp 34) (.tmp 37) 53 rfl wr.heap.size 3 i0 (.int .i64 0) 8 Try.underlying53 HZ.out.1 HZ.out.2.1 HZ.out.2.2.1 HZ.out.2.2.2 rfl (.slice (some ⟨wr.heap.size, 0, none⟩) 0 0) 0 [] rfl (owns_emptyN _ _ _ _ _ (Nat.le_refl _) (heap_at_new _ _ _ rfl)) (some ⟨b, 0, none⟩) i c ((l.take i).map (Value.int .i64)) rfl (by simp <;> omega) (fun h => lst_src (lst_take HR.out i) (below_alloc _ _) (by simp; omega)) (int_one _) (by unfold maxLen; omega) (by omega) (by simp) ?_; intro v1 w1 hown1 hgrow1 hat1; have HO1 := Lib.hid hown1; have HB1 := Lib.hid (Below.grown (below_alloc _ _) hgrow1 (by simp) (fun kk e => by simp [Value.ownBlock] at e; omega)); clear hown1 hgrow1 hat1)
          | (at_builtin; refine wpList_append_src _ rfl (.tmp 39) (.tmp 41) 53 rfl wr.heap.size 3 i0 (.int .i64 0) 8 Try.underlying53 HZ.out.1 HZ.out.2.1 HZ.out.2.2.1 HZ.out.2.2.2 rfl v1 (0 + i) ([] ++ ((l.take i).map (Value.int .i64))) rfl (HO1.out.alloc _) (some ⟨w1.heap.size, 0, none⟩) 1 1 [.int .i64 u] rfl rfl (fun _ => ⟨_, rfl, one_newsI (by simp)⟩) (by intro y hy; simp at hy; subst hy; rfl) (by unfold maxLen; omega) (by omega) (by simp; have := HB1.out.size; omega) ?_; intro v2 w2 hown2 hgrow2 hat2; have HO2 := Lib.hid hown2; have HB2 := Lib.hid (show Below wr.heap.size wr w2 from Below.grown (HB1.out.alloc HB1.out.size _) hgrow2 (by simp; have := HB1.out.size; omega) (fun kk e => by have := (HO1.out.lt kk e).1; omega)); clear hown2 hgrow2 hat2)
          | (at_builtin; refine wpList_append_src _ rfl (.tmp 43) (.tmp 46) 53 rfl wr.heap.size 3 i0 (.int .i64 0) 8 Try.underlying53 HZ.out.1 HZ.out.2.1 HZ.out.2.2.1 HZ.out.2.2.2 rfl v2 (0 + i + 1) ([] ++ ((l.take i).map (Value.int .i64)) ++ [.int .i64 u]) rfl HO2.out (if c = i then some ⟨b, 0, none⟩ else some ⟨b, i, none⟩) 0 (c - i) ([] : List Value) rfl (by simp) (fun h => absurd h (by simp)) (by simp) (by unfold maxLen; omega) (by omega) (by have := HB2.out.size; omega) ?_; intro v3 w3 hown3 hgrow3 hat3; have HO3 := Lib.hid hown3; have HB3 := Lib.hid (show Below wr.heap.size wr w3 from Below.grown HB2.out hgrow3 HB2.out.size (fun kk e => (HO2.out.lt kk e).1)); clear hown3 hgrow3 hat3))
        all_goals
          go_ret
          refine ⟨⟨l.take i ++ u :: l.drop i, v3, rfl, ?_, HP.out, put_perm l u i⟩, HB3.out⟩
          have h := HO3.out
          have e1 : 0 + i + 1 + 0 = (l.take i ++ u :: l.drop i).length := by simp; omega
          have e2 : [] ++ (l.take i).map (Value.int .i64) ++ [.int .i64 u] ++ ([] : List Value) = (l.take i ++ u :: l.drop i).map (Value.int .i64) := by rw [List.drop_eq_nil_of_le hge]; simp
          rw [e1, e2] at h
          exact h
/-- The head of a block holds some texts, and may be written. -/
def IRow (w : World) (g : Nat) (zs : List Int) : Prop := Sort.Holds (Value.int .i64) w g 0 zs.toArray
theorem IRow.own {w : World} {g : Nat} {zs : List Int} (h : IRow w g zs) : OwnAt w g 0 (zs) := by
  have hi : ∀ i, i < zs.length → it (zs) i = zs.toArray[i]! := fun i hi => by
    unfold it
    rw [getElem!_pos _ i (by simpa using hi)]
    simp [hi]
  refine ⟨fun i hil j v hv => ?_, fun i j hil hj => ?_⟩
  · match j, hv with
    | 0, hv =>
      have e : Value.int .i64 (it zs i) = v := by injection hv
      rw [← e, hi i hil]
      have := (h i (by simpa using hil)).1
      rw [show 0 + i * Flat.sz Int + 0 = 0 + i by show 0 + i * 1 + 0 = _; omega]
      exact this
  · have hj0 : j = 0 := by
      have : j < 1 := hj
      omega
    subst hj0
    rw [show 0 + i * Flat.sz Int + 0 = 0 + i by show 0 + i * 1 + 0 = _; omega]
    exact (h i (by simpa using hil)).2
theorem IRow.of_own {w : World} {B g c : Nat} {e : TypeId} {zs : List Int} (h : w.ownsRow B e 1 (.slice (some ⟨g, 0, none⟩) zs.length c) zs.length (zs.map (Value.int .i64))) : IRow w g zs := fun j hj => by
  have hj' : j < zs.length := by simpa using hj
  rw [Nat.zero_add]
  refine ⟨?_, h.frozenAt j⟩
  rw [h.cellAt j (by omega), getElem!_pos _ j hj]
  simp [hj']
theorem row_capI {w : World} {B g c n : Nat} {e : TypeId} {cs : List Value} (h : w.ownsRow B e 1 (.slice (some ⟨g, 0, none⟩) n c) n cs) : n ≤ c := by
  rcases h.2 with ⟨h, _⟩ | ⟨g', cap', cur, h, _, _, h', _⟩
  · cases h
  · cases h
    exact h'
theorem below_mapBlockI {w : World} {g q : Nat} {d : Array Int} : Below g w (Sort.putRow (Value.int .i64) (Sort.ahead w q) g 0 d) := by
  refine ⟨rfl, rfl, rfl, by simp, fun k hk => ?_⟩
  unfold Sort.putRow Sort.mapBlock
  simp only [Array.getElem?_modify]
  rw [if_neg (by omega)]
  rfl
theorem sortI_any (g c : Nat) (zs : List Int) (w : World) (h : IRow w g zs) (hg : g < w.heap.size) (hl : zs.length ≤ 1048576) :
    Calls Try.prog 67 #[.slice (some ⟨g, 0, none⟩) zs.length c] w fun e w' => e = .returned (.tuple #[]) ∧ IRow w' g (srtI zs) ∧ Below g w w' := by
  refine (Try.slices_Sort_int g 0 c zs w h hg (by omega)).mono ?_
  rintro e w' ⟨rfl, n, os, rfl⟩
  have hH : Sort.Holds (Value.int .i64) (Sort.ahead w n) g 0 zs.toArray := h
  have h1 := Sort.holds_putRow (Value.int .i64) (Sort.ahead w n) g 0 zs.toArray (srtI zs).toArray hH (by simp)
  have hg2 : g < (Sort.putRow (Value.int .i64) (Sort.ahead w n) g 0 (srtI zs).toArray).heap.size := by simpa using hg
  refine ⟨rfl, fun j hj => ?_, ?_⟩
  · have := h1 j hj
    exact ⟨(Sort.cell?_grow _ _ _ hg2).trans this.1, (Sort.frozen?_grow _ _ _ hg2).trans this.2⟩
  · refine (below_mapBlockI (w := w) (g := g) (q := n) (d := (srtI zs).toArray)).trans ⟨rfl, rfl, rfl, by simp, fun k hk => ?_⟩
    exact Sort.heap_grow_old _ _ (Nat.lt_trans hk hg2)
theorem compactI_any (g c : Nat) (zs : List Int) (w : World) (h : IRow w g zs) (hl : zs.length ≤ 1048576) (hc : zs.length ≤ c) :
    Calls Try.prog 68 #[.slice (some ⟨g, 0, none⟩) zs.length c] w fun e w' => e = .returned (.slice (some ⟨g, 0, none⟩) (Lib.compact zs).length c) ∧ IRow w' g (Lib.compact zs) ∧ Below g w w' := by
  refine (Try.slices_Compact_int g 0 c zs w h (by omega) hc).mono ?_
  rintro e w' ⟨rfl, q, rfl⟩
  have hle := Lib.compact_length_le zs
  have hH : Sort.Holds (Value.int .i64) (Sort.ahead w q) g 0 zs.toArray := h
  have h1 := Sort.holds_putRow (Value.int .i64) (Sort.ahead w q) g 0 zs.toArray (Lib.compact zs ++ List.replicate (zs.length - (Lib.compact zs).length) 0).toArray hH (by simp; omega)
  refine ⟨rfl, fun j hj => ?_, below_mapBlockI⟩
  have hj' : j < (Lib.compact zs).length := by simpa using hj
  have := h1 j (by simp; omega)
  rw [getElem!_pos _ j (by simp; omega)] at this
  rw [getElem!_pos _ j hj]
  simpa [List.getElem_append_left hj'] using this

end Go.Proofs.Ythbkfekbpjkhnaa
