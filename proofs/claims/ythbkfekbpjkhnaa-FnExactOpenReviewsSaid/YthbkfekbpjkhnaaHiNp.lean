/- Lists of pairs built by append; namesWhere of the program; such lists as answers. -/
import Derived.Test.YthbkfekbpjkhnaaItemP
import Derived.Test.YthbkfekbpjkhnaaAppN
import Derived.Test.YthbkfekbpjkhnaaRoA
import Derived.Test.YthbkfekbpjkhnaaHiN
import Derived.Test.YthbkfekbpjkhnaaHiRo
namespace Go.Proofs.Ythbkfekbpjkhnaa
open Go.ChangeShapes Go.WideShapes Go.ChangeAt Go.RowKit Go.Lib Go.Proofs
set_option linter.unusedVariables false

/-- The places of an item's first names. -/
def plJ (D : Nat → Nat → Bool) (i : Nat) : Nat → List (List Int)
  | 0 => []
  | j + 1 => if D i j = true then plJ D i j ++ [[(i : Int), (j : Int)]] else plJ D i j
/-- The places of the first items. -/
def plI (n : Nat → Nat) (D : Nat → Nat → Bool) : Nat → List (List Int)
  | 0 => []
  | i + 1 => plI n D i ++ plJ D i (n i)
theorem plJ_yes {D : Nat → Nat → Bool} {i j : Nat} (h : D i j = true) : plJ D i (j + 1) = plJ D i j ++ [[(i : Int), (j : Int)]] := if_pos h
theorem plJ_no {D : Nat → Nat → Bool} {i j : Nat} (h : D i j = false) : plJ D i (j + 1) = plJ D i j := if_neg (by rw [h]; simp)
theorem plJ_len (D : Nat → Nat → Bool) (i : Nat) : ∀ j, (plJ D i j).length ≤ j
  | 0 => Nat.le_refl _
  | j + 1 => by
    have := plJ_len D i j
    rw [plJ]
    split <;> simp <;> omega
theorem plI_len {n : Nat → Nat} {D : Nat → Nat → Bool} : ∀ i, (∀ k, k < i → n k ≤ 3) → (plI n D i).length ≤ 3 * i
  | 0, _ => Nat.le_refl _
  | i + 1, h => by
    have h1 := plI_len (n := n) (D := D) i (fun k hk => h k (by omega))
    have h2 := plJ_len D i (n i)
    have h3 := h i (by omega)
    rw [plI, List.length_append]
    omega
theorem plJ_congr {D E : Nat → Nat → Bool} {i : Nat} : ∀ j, (∀ k, k < j → D i k = E i k) → plJ D i j = plJ E i j
  | 0, _ => rfl
  | j + 1, h => by rw [plJ, plJ, h j (by omega), plJ_congr j (fun k hk => h k (by omega))]
theorem plI_congr {n m : Nat → Nat} {D E : Nat → Nat → Bool} : ∀ i, (∀ k, k < i → n k = m k) → (∀ k j, k < i → j < n k → D k j = E k j) → plI n D i = plI m E i
  | 0, _, _ => rfl
  | i + 1, h, h2 => by rw [plI, plI, plI_congr i (fun k hk => h k (by omega)) (fun k j hk hj => h2 k j (by omega) hj), ← h i (by omega), plJ_congr _ (fun k hk => h2 i k (by omega) hk)]

structure NAp (w1 wr : World) (v : Value) (ps : List (List Int)) (ys : List (Rw Int)) (s : Nat → Nat) : Prop where
  len : ys.length = ps.length
  val : ∀ k, k < ps.length → (it ys k).xs = it ps k
  row : wr.ownsRow w1.heap.size 53 1 v ys.length (ys.flatMap Flat.cells)
  adr : ∀ k, k < ps.length → (it ys k).A = some ⟨s k, 0, none⟩
  each : ∀ k, k < ps.length → OwnAt wr (s k) 0 (it ys k).xs
  lo : ∀ k, k < ps.length → w1.heap.size ≤ s k
  hi : ∀ k, k < ps.length → s k < wr.heap.size
  inj : ∀ k l, k < l → l < ps.length → s k ≠ s l
  ne : ∀ k, k < ps.length → v.ownBlock ≠ some (s k)
theorem NAp.zero (w1 wr : World) : NAp w1 wr (.slice none 0 0) [] [] (fun _ => 0) :=
  ⟨rfl, fun k hk => absurd hk (by simp), ⟨rfl, .inl ⟨rfl, rfl⟩⟩, fun k hk => absurd hk (by simp), fun k hk => absurd hk (by simp), fun k hk => absurd hk (by simp), fun k hk => absurd hk (by simp), fun k l _ hl => absurd hl (by simp), fun k hk => absurd hk (by simp)⟩
theorem NAp.next {w1 wr w2 : World} {v : Value} {ps : List (List Int)} {ys : List (Rw Int)} {s : Nat → Nat} (h : NAp w1 wr v ps ys s) (hb : Below wr.heap.size wr w2) : NAp w1 w2 v ps ys s :=
  ⟨h.len, h.val, own_next h.row hb, h.adr, fun k hk => (h.each k hk).block (hb.block _ (h.hi k hk)), h.lo, fun k hk => Nat.lt_of_lt_of_le (h.hi k hk) hb.size, h.inj, h.ne⟩
theorem own_pair (w : World) (a b : Int) (t : TypeId) (g : Nat) (hg : w.heap.size = g) : OwnAt (w.alloc (.cells #[.int .i64 a, .int .i64 b] t)) g 0 [a, b] := by
  subst hg
  refine ⟨fun i hi j v hv => ?_, fun i j hi hj => by simp⟩
  have hi' : i < 2 := hi
  match j, hv with
  | 0, hv =>
    rcases (show i = 0 ∨ i = 1 by omega) with rfl | rfl
    · obtain rfl := Option.some.inj hv
      simp [Flat.sz]
      rfl
    · obtain rfl := Option.some.inj hv
      simp [Flat.sz]
      rfl
theorem it_snoc_lt {α : Type} [Inhabited α] {xs : List α} {x : α} {k : Nat} (h : k < xs.length) : it (xs ++ [x]) k = it xs k := by
  unfold it
  rw [List.getD_eq_getElem?_getD, List.getD_eq_getElem?_getD, List.getElem?_append_left h]
theorem it_snoc_eq {α : Type} [Inhabited α] {xs : List α} {x : α} : it (xs ++ [x]) xs.length = x := by
  unfold it
  rw [List.getD_eq_getElem?_getD, List.getElem?_append_right (Nat.le_refl _)]
  simp
/-- One pair more. -/
theorem NAp.push {w1 wr w4 : World} {v v1 : Value} {ps : List (List Int)} {ys : List (Rw Int)} {s : Nat → Nat} {a b : Int} {t1 t2 : TypeId} (h : NAp w1 wr v ps ys s) (hb : Below w1.heap.size w1 wr)
    (hown : w4.ownsRow w1.heap.size 53 1 v1 (ys.length + 1) (ys.flatMap Flat.cells ++ [.slice (some ⟨wr.heap.size, 0, none⟩) 2 2]))
    (hgrow : ((wr.alloc (.cells #[.int .i64 a, .int .i64 b] t1)).alloc (.cells #[.slice (some ⟨wr.heap.size, 0, none⟩) 2 2] t2)).grownBy w4 v.ownBlock) (hat : v1.ownBlock = v.ownBlock ∨ v1.ownBlock = some (wr.heap.size + 1 + 1)) :
    NAp w1 w4 v1 (ps ++ [[a, b]]) (ys ++ [⟨some ⟨wr.heap.size, 0, none⟩, 2, [a, b]⟩]) (fun k => if k = ps.length then wr.heap.size else s k) ∧ Below w1.heap.size w1 w4 := by
  have hl := h.len
  have hbs := hb.size
  have hs3 : ((wr.alloc (.cells #[.int .i64 a, .int .i64 b] t1)).alloc (.cells #[.slice (some ⟨wr.heap.size, 0, none⟩) 2 2] t2)).heap.size = wr.heap.size + 1 + 1 := by simp
  have hsz := hgrow.size
  rw [hs3] at hsz
  have hv : ∀ m, v.ownBlock = some m → w1.heap.size ≤ m ∧ m < wr.heap.size := fun m e => h.row.lt m e
  have hb3 : Below wr.heap.size wr ((wr.alloc (.cells #[.int .i64 a, .int .i64 b] t1)).alloc (.cells #[.slice (some ⟨wr.heap.size, 0, none⟩) 2 2] t2)) := below_next (below_alloc _ _) (below_alloc _ _)
  have kb : ∀ g, g < wr.heap.size → v.ownBlock ≠ some g → w4.heap[g]? = wr.heap[g]? := fun g h1 h2 => by
    rw [hgrow.block g (by rw [hs3]; omega) (fun q => h2 q.symm)]
    exact hb3.block g h1
  have kn : OwnAt w4 wr.heap.size 0 [a, b] := by
    have h1 := (own_pair wr a b t1 wr.heap.size rfl).block (w' := (wr.alloc (.cells #[.int .i64 a, .int .i64 b] t1)).alloc (.cells #[.slice (some ⟨wr.heap.size, 0, none⟩) 2 2] t2)) ((below_alloc _ _).block _ (by simp))
    exact h1.block (hgrow.block _ (by rw [hs3]; omega) (fun q => by have := (hv _ q.symm).2; omega))
  have hlt : ∀ k, k < (ps ++ [[a, b]]).length → k < ps.length ∨ k = ps.length := fun k hk => by
    rw [List.length_append] at hk
    have : k < ps.length + 1 := hk
    omega
  refine ⟨⟨by simp [hl], fun k hk => ?_, ?_, fun k hk => ?_, fun k hk => ?_, fun k hk => ?_, fun k hk => ?_, fun k l hkl hl' => ?_, fun k hk => ?_⟩, ?_⟩
  · rcases hlt k hk with g | rfl
    · rw [it_snoc_lt (by omega), it_snoc_lt g]
      exact h.val k g
    · rw [it_snoc_eq, ← hl, it_snoc_eq]
  · rw [List.length_append, List.flatMap_append]
    exact hown
  · rcases hlt k hk with g | rfl
    · rw [it_snoc_lt (by omega), if_neg (by omega)]
      exact h.adr k g
    · rw [← hl, it_snoc_eq, if_pos rfl]
  · rcases hlt k hk with g | rfl
    · rw [it_snoc_lt (by omega), if_neg (by omega)]
      exact (h.each k g).block (kb _ (h.hi k g) (h.ne k g))
    · rw [if_pos rfl, ← hl, it_snoc_eq]
      exact kn
  · rcases hlt k hk with g | rfl
    · rw [if_neg (by omega)]
      exact h.lo k g
    · rw [if_pos rfl]
      exact hbs
  · rcases hlt k hk with g | rfl
    · rw [if_neg (by omega)]
      have := h.hi k g
      omega
    · rw [if_pos rfl]
      omega
  · rcases hlt l hl' with g | rfl
    · rw [if_neg (by omega), if_neg (by omega)]
      exact h.inj k l hkl g
    · rw [if_neg (by omega), if_pos rfl]
      have := h.hi k hkl
      omega
  · rcases hlt k hk with g | rfl
    · rw [if_neg (by omega)]
      rcases hat with e | e
      · rw [e]
        exact h.ne k g
      · rw [e]
        intro q
        injection q with q
        have := h.hi k g
        omega
    · rw [if_pos rfl]
      rcases hat with e | e
      · rw [e]
        intro q
        have := (hv _ q).2
        omega
      · rw [e]
        intro q
        injection q with q
        omega
  · exact Below.grown (hb.trans (hb3.mono hbs)) hgrow (by rw [hs3]; omega) (fun m e => (hv m e).1)
/-- What has been built, as a list that the call owns. -/
theorem NAp.done {w1 wr : World} {v : Value} {ps : List (List Int)} {ys : List (Rw Int)} {s : Nat → Nat} (h : NAp w1 wr v ps ys s) :
    ∃ y : Rw (Rw Int), v = .slice y.A y.xs.length y.c ∧ y.xs.length = ps.length ∧ (∀ k, k < ps.length → (it y.xs k).xs = it ps k) ∧ Nst.Own (iv w1.heap.size wr.heap.size) wr y := by
  have hl := h.len
  have hr := h.row
  rcases hr.2 with ⟨hv, h0⟩ | ⟨g, cap, cur, rfl, h3, h4, h5⟩
  · have hy : ys = [] := List.eq_nil_of_length_eq_zero h0
    refine ⟨⟨none, 0, ys⟩, by rw [hv, hy]; rfl, hl, h.val, 0, fun _ _ => False, Owned.mono (S := fun i => i = 0) (by rw [hy]; exact Owned.nil _ _ _) (fun _ h => h), fun i hi => absurd hi (by show ¬ i < ys.length; omega), fun i hi h => h, fun i j x _ _ h => h.elim, fun hp => absurd hp (by show ¬ 0 < ys.length; omega), fun i x _ h => h.elim⟩
  · have hlt := hr.lt g rfl
    refine ⟨⟨some ⟨g, 0, none⟩, cap, ys⟩, rfl, hl, h.val, g, fun k i => i = s k, fun _ => ⟨g, 0, rfl, rfl, hlt.2, own_of_row ys hr⟩, fun k hk => ?_, fun k hk e => ?_, fun k l x hkl hll e1 e2 => ?_, fun _ => hlt, fun k x hk e => ?_⟩
    · have hk' : k < ps.length := by rw [← hl]; exact hk
      show Owned (fun i => i = s k) wr (it ys k).A (it ys k).xs
      rw [h.adr k hk']
      exact fun _ => ⟨_, 0, rfl, rfl, h.hi k hk', h.each k hk'⟩
    · have hk' : k < ps.length := by rw [← hl]; exact hk
      exact h.ne k hk' (by rw [← e]; rfl)
    · have hl' : l < ps.length := by rw [← hl]; exact hll
      exact h.inj k l hkl hl' (e1.symm.trans e2)
    · have hk' : k < ps.length := by rw [← hl]; exact hk
      rw [e]
      exact ⟨h.lo k hk', h.hi k hk'⟩
theorem Try.infoRwI : (Try.prog.info? 53).map (fun i => (i.zero, i.size, i.bytes)) = some (some (.slice none 0 0), 1, 24) := by kernel_rfl
theorem one_slice {W : World} {b : Nat} {v : Value} (h : W.cell? ⟨b, 0, none⟩ = some v) : ∀ j u, ([v] : List Value)[j]? = some u → W.cell? ((⟨b, 0, none⟩ : Addr).add j) = some u := fun j u hj => by
  match j, hj with
  | 0, hj => obtain rfl := Option.some.inj hj; exact h
theorem one_sliceC (A : Option Addr) (n c : Nat) : ∀ u ∈ [Value.slice A n c], u.oneCell' = true := fun u hu => by
  obtain rfl : u = Value.slice A n c := by simpa using hu
  rfl
/-- How many names the items have. -/
def nmN (xs : List Im) (i : Nat) : Nat := (it xs i).ns.length
/-- The call of a function value with a place: its answer. -/
def Asks (G : Nat) (ps : Array Value) (xs : List Im) (D : Nat → Nat → Bool) (w : World) : Prop :=
  ∀ W', Below w.heap.size w W' → ∀ i j, i < xs.length → j < nmN xs i → Calls Try.prog G (#[.int .i64 (i : Int), .int .i64 (j : Int)] ++ ps) W' fun e w' => e = .returned (.bool (D i j)) ∧ Below W'.heap.size W' w'
set_option maxHeartbeats 8000000 in
set_option maxRecDepth 100000 in
theorem namesWhere_any (P : Option Addr) (c : Nat) (xs : List Im) (G : Nat) (ps : Array Value) (D : Nat → Nat → Bool) (w : World) (hr : Ims w w.heap.size P xs) (hok : ListOk xs)
    (eG : ∀ args w, (callFunc G args).run Try.prog w = .ok (.enter G args) w) (hD : Asks G ps xs D w) :
    Calls Try.prog 59 #[.slice P xs.length c, .func (.func G) #[] ps] w fun e w' => (∃ y : Rw (Rw Int), e = .returned (.slice y.A y.xs.length y.c) ∧ y.xs.length = (plI (nmN xs) D xs.length).length ∧ (∀ k, k < (plI (nmN xs) D xs.length).length → (it y.xs k).xs = it (plI (nmN xs) D xs.length) k) ∧ Nst.Own (iv w.heap.size w'.heap.size) w' y) ∧ Below w.heap.size w w' := by
  obtain ⟨i0, hi, hz0, hz1, hz2⟩ := info_parts Try.infoRwI
  have HZ := Lib.hid (And.intro hi (And.intro hz0 (And.intro hz1 hz2)))
  have HR := Lib.hid hr
  have HK := Lib.hid hok
  have HD := Lib.hid hD
  have h14 := hok.len
  have HN3 := Lib.hid (show ∀ k, k < xs.length → nmN xs k ≤ 3 from fun k hk => (hok.each k hk).hi)
  clear hr hok hD hi hz0 hz1 hz2
  go_enter Try.func59, Try.ntmps59
  go_wp2
  go_loopw [5, 11] (fun v p wr => ∃ (i : Nat) (ys : List (Rw Int)) (s : Nat → Nat), i ≤ xs.length ∧ p = .int .i64 i ∧ Hid (NAp w wr v (plI (nmN xs) D i) ys s) ∧ Hid (Below w.heap.size w wr)) (fun _ p _ => xs.length - (intOf p).toNat)
  case atStart => exact ⟨0, [], fun _ => 0, Nat.zero_le _, rfl, Lib.hid (NAp.zero w w), Lib.hid (Below.refl _ _)⟩
  case round =>
    obtain ⟨i, ys, s, hk, rfl, HA, HB⟩ := hrel
    by_cases hlt : i < xs.length
    · obtain ⟨b, o, rfl, hbl, hc⟩ := HR.out.out.im (by omega)
      obtain ⟨c0, c1, c2⟩ := (hc i hlt).below HB.out hbl
      have hn3 := HN3.out i hlt
      have HNN := Lib.hid (show nmN xs i = (it xs i).ns.length from rfl)
      clear hc
      go_wp2_with fail
      clear c0 c1 c2
      have hb3 := below_alloc wr (.cells #[.slice (it xs i).A (it xs i).ns.length (it xs i).c, .slice (it xs i).L (it xs i).ms.length (it xs i).d, .bool (it xs i).late] 68)
      generalize World.alloc wr _ = w3 at hb3 ⊢
      have HB3 := Lib.hid (below_next HB.out hb3)
      have HA3 := Lib.hid (show NAp w w3 _ (plI (nmN xs) D i ++ plJ D i 0) ys s by rw [show plJ D i 0 = [] from rfl, List.append_nil]; exact HA.out.next hb3)
      clear hb3
      rw [← HNN.out]
      go_loopw [5, 19] (fun v p wr => ∃ (j : Nat) (ys : List (Rw Int)) (s : Nat → Nat), j ≤ nmN xs i ∧ p = .int .i64 j ∧ Hid (NAp w wr v (plI (nmN xs) D i ++ plJ D i j) ys s) ∧ Hid (Below w.heap.size w wr)) (fun _ p _ => nmN xs i - (intOf p).toNat)
      case atStart => exact ⟨0, ys, s, Nat.zero_le _, rfl, HA3, HB3⟩
      case round =>
        obtain ⟨j, ys, s, hj, rfl, HJ, HBJ⟩ := hrel
        by_cases hjl : j < nmN xs i
        · have HC := Lib.hid (HD.out wr HBJ.out i j hlt hjl)
          have hbd := plI_len (n := nmN xs) (D := D) i (fun k hk => HN3.out k (by omega))
          have hbd2 := plJ_len D i j
          have HLN := Lib.hid HJ.out.len
          have HPL := Lib.hid (show (plI (nmN xs) D i ++ plJ D i j).length ≤ 60 by rw [List.length_append]; omega)
          cases hq : D i j
          · rw [hq] at HC
            have HP := Lib.hid (plJ_no hq)
            clear hq hbd hbd2
            go_wp2_with (go_at_fn G; refine HC.out.mono ?_; rintro e w4 ⟨rfl, hb4⟩; have HB4 := Lib.hid (below_next HBJ.out hb4); have HJ4 := Lib.hid (HJ.out.next hb4); clear hb4)
            go_roundw
            case rel => exact ⟨j + 1, ys, s, by omega, by go_num, by rw [HP.out]; exact HJ4, HB4⟩
            case measure => simp [intOf]; omega
          · rw [hq] at HC
            have HP := Lib.hid (plJ_yes hq)
            clear hq hbd hbd2
            go_wp2_with (first
              | (go_at_fn G; refine HC.out.mono ?_; rintro e w4 ⟨rfl, hb4⟩; have HB4 := Lib.hid (below_next HBJ.out hb4); have HJ4 := Lib.hid (HJ.out.next hb4); clear hb4)
              | (at_builtin; refine wpList_append_src _ rfl (.tmp 26) (.tmp 30) 41 rfl w.heap.size 53 i0 (.slice none 0 0) 24 Try.underlying41 HZ.out.1 HZ.out.2.1 HZ.out.2.2.1 HZ.out.2.2.2 rfl _ ys.length (ys.flatMap Flat.cells) rfl ((HJ4.out.row.alloc _).alloc _) (some ⟨w4.heap.size + 1, 0, none⟩) 1 1 [.slice (some ⟨w4.heap.size, 0, none⟩) 2 2] rfl rfl (fun _ => ⟨_, rfl, one_slice (by simp)⟩) (one_sliceC _ _ _) (by have := HLN.out; have := HPL.out; unfold maxLen; omega) (by have := HLN.out; have := HPL.out; omega) (by have := HB4.out.size; simp; omega) ?_; intro v1 w6 hown hgrow hat))
            have hps := HJ4.out.push HB4.out hown hgrow (by
              rcases hat with h | h
              · exact .inl h
              · exact .inr (by rw [h]; simp))
            have HPS := Lib.hid hps.1
            have HB6 := Lib.hid hps.2
            clear hown hgrow hat hps
            go_roundw
            case rel => exact ⟨j + 1, _, _, by omega, by go_num, by rw [HP.out, ← List.append_assoc]; exact HPS, HB6⟩
            case measure => simp [intOf]; omega
        · obtain rfl : j = nmN xs i := by omega
          go_wp2
          go_roundw
          case rel => exact ⟨i + 1, ys, s, by omega, by go_num, HJ, HBJ⟩
          case measure => simp [intOf]; omega
    · obtain rfl : i = xs.length := by omega
      obtain ⟨y, rfl, h1, h2, h3⟩ := HA.out.done
      have H1 := Lib.hid (And.intro h1 (And.intro h2 h3))
      clear h1 h2 h3
      go_wp2
      go_ret
      exact ⟨⟨y, rfl, H1.out.1, H1.out.2.1, H1.out.2.2⟩, HB.out⟩
theorem nmN_same {l m : List Im} (h : SameS l m) {k : Nat} (hk : k < l.length) : nmN m k = nmN l k := by
  unfold nmN
  rw [(h.each k hk).ns]
/-- An answer that is a list of pairs of the call's own. -/
structure PairsAns (ps : List (List Int)) (w w' : World) (y : Rw (Rw Int)) : Prop where
  len : y.xs.length = ps.length
  val : ∀ k, k < ps.length → (it y.xs k).xs = it ps k
  own : Nst.Own (iv w.heap.size w'.heap.size) w' y
theorem PairsAns.nil (w w' : World) : PairsAns [] w w' ⟨none, 0, []⟩ :=
  ⟨rfl, fun k hk => absurd hk (by simp), 0, fun _ _ => False, Owned.nil _ _ _, fun i hi => absurd hi (by simp), fun i hi h => h, fun i j x _ _ h => h.elim, fun hp => absurd hp (by simp), fun i x _ h => h.elim⟩
/-- What a list of pairs holds. -/
structure Prs (ps : List (List Int)) (y : Rw (Rw Int)) : Prop where
  len : y.xs.length = ps.length
  val : ∀ k, k < ps.length → (it y.xs k).xs = it ps k
theorem PairsAns.prs {ps : List (List Int)} {w w' : World} {y : Rw (Rw Int)} (h : PairsAns ps w w' y) : Prs ps y := ⟨h.len, h.val⟩
/-- Few pairs. -/
structure Few (ps : List (List Int)) : Prop where
  len : ps.length ≤ 60
  two : ∀ k, k < ps.length → (it ps k).length ≤ 2
theorem prs_eqv {ps : List (List Int)} {y z : Rw (Rw Int)} (h : Prs ps y) (k : Prs ps z) : Nst.Eqv y z :=
  ⟨by rw [h.len, k.len], fun i hi => by
    have hi' : i < ps.length := by rw [← h.len]; exact hi
    show (it z.xs i).xs = (it y.xs i).xs
    rw [h.val i hi', k.val i hi']⟩
theorem prs_fit {ps : List (List Int)} {y : Rw (Rw Int)} (h : Prs ps y) (hf : Few ps) : NFit y := by
  show y.xs.length + sumTo (fun i => (it y.xs i).xs.length) y.xs.length ≤ 1048576
  have h1 : ∀ n, n ≤ y.xs.length → sumTo (fun i => (it y.xs i).xs.length) n ≤ 2 * n := fun n hn => by
    induction n with
    | zero => exact Nat.le_refl _
    | succ n ih =>
      have h2 := ih (by omega)
      have h3 : (it y.xs n).xs.length ≤ 2 := by
        rw [h.val n (by rw [← h.len]; omega)]
        exact hf.two n (by rw [← h.len]; omega)
      simp only [sumTo]
      omega
  have h4 := h1 _ (Nat.le_refl _)
  have h5 := hf.len
  have h6 := h.len
  omega
theorem plJ_two {D : Nat → Nat → Bool} {i : Nat} : ∀ n, ∀ p ∈ plJ D i n, p.length = 2
  | 0, p, hp => absurd hp (by simp [plJ])
  | n + 1, p, hp => by
    rw [plJ] at hp
    split at hp
    · rcases List.mem_append.1 hp with h | h
      · exact plJ_two n p h
      · obtain rfl : p = [(i : Int), (n : Int)] := by simpa using h
        rfl
    · exact plJ_two n p hp
theorem plI_two {n : Nat → Nat} {D : Nat → Nat → Bool} : ∀ m, ∀ p ∈ plI n D m, p.length = 2
  | 0, p, hp => absurd hp (by simp [plI])
  | m + 1, p, hp => by
    rw [plI] at hp
    rcases List.mem_append.1 hp with h | h
    · exact plI_two m p h
    · exact plJ_two _ p h
theorem it_in {ps : List (List Int)} {k : Nat} (hk : k < ps.length) : it ps k ∈ ps := List.mem_of_getElem? (it_get ps k hk)
end Go.Proofs.Ythbkfekbpjkhnaa
