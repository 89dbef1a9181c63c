/- Valid sheets, in plain words; IsSheet of the model. -/
import Derived.Test.YtbhfhjhegcfdkaaShB
namespace Go.Proofs.Ytbhfhjhegcfdkaa
open Go.ChangeShapes Go.WideShapes Go.ChangeAt Go.RowKit
set_option linter.unusedVariables false

theorem none_yet {Q : Nat → Prop} : ∀ i, i < 0 → Q i := fun i hi => absurd hi (Nat.not_lt_zero i)
theorem one_more {Q : Nat → Prop} {k : Nat} (h : ∀ i, i < k → Q i) (hk : Q k) : ∀ i, i < k + 1 → Q i := fun i hi => by
  rcases Nat.lt_or_ge i k with g | g
  · exact h i g
  · obtain rfl : i = k := by omega
    exact hk
def NoMk (x : Im) : Prop := ∀ j, j < x.ms.length → it x.ms j = 0
def NoMks (l : List Im) : Prop := ∀ i, i < l.length → NoMk (it l i)
/-- A vote. -/
def VtOk (v : Int) : Prop := -1 ≤ v ∧ v ≤ 3
/-- The votes for an item. -/
structure VtIt (x : Im) (r : Rw Int) : Prop where
  len : r.xs.length = x.ns.length
  each : ∀ j, j < r.xs.length → VtOk (it r.xs j)
/-- The votes of a caller. -/
structure VtOne (l : List Im) (q : Rw (Rw Int)) : Prop where
  len : q.xs.length = l.length
  each : ∀ i, i < l.length → VtIt (it l i) (it q.xs i)
structure VtAll (l : List Im) (V : Rw (Rw (Rw Int))) : Prop where
  len : V.xs.length = 3
  each : ∀ k, k < V.xs.length → VtOne l (it V.xs k)
structure NmAt (l : List Im) (i n : Int) : Prop where
  i0 : 0 ≤ i
  i1 : i < (l.length : Int)
  n0 : 0 ≤ n
  n1 : n < ((it l i.toNat).ns.length : Int)
structure RvOk (l : List Im) (r : Rv) : Prop where
  nm : NmAt l r.item r.name
  mark : MkOk r.mark
structure RvAll (l : List Im) (rv : List Rv) : Prop where
  few : rv.length ≤ 20
  each : ∀ i, i < rv.length → RvOk l (it rv i)
structure ShOk (x : Sh) : Prop where
  ls : ListOk x.l
  un : NoMks x.l
  vo : VtAll x.l x.V
  re : RvAll x.l x.rv
theorem NmAt.same {l m : List Im} {i n : Int} (h : SameS l m) (k : NmAt l i n) : NmAt m i n :=
  ⟨k.i0, by have := k.i1; rw [h.len]; exact this, k.n0, by have h1 := k.n1; have h2 := k.i0; have h3 := k.i1; rw [(h.each i.toNat (by omega)).ns]; exact h1⟩
theorem VtIt.same {x y : Im} {r s : Rw Int} (h : Same x y) (e : Nst.Eqv r s) (k : VtIt x r) : VtIt y s := by
  have e' : s.xs = r.xs := e
  exact ⟨by rw [e', h.ns]; exact k.len, fun j hj => by rw [e'] at hj ⊢; exact k.each j hj⟩
theorem VtOne.same {l m : List Im} {q t : Rw (Rw Int)} (h : SameS l m) (e : Nst.Eqv q t) (k : VtOne l q) : VtOne m t := by
  have e' : NEqv q.xs t.xs := e
  have hl := h.len
  have h1 := k.len
  exact ⟨by rw [e'.len, hl]; exact h1, fun i hi => (k.each i (by omega)).same (h.each i (by omega)) (e'.each i (by omega))⟩
theorem VtAll.same {l m : List Im} {V U : Rw (Rw (Rw Int))} (h : SameS l m) (e : Nst.Eqv V U) (k : VtAll l V) : VtAll m U := by
  have e' : NEqv V.xs U.xs := e
  exact ⟨by rw [e'.len]; exact k.len, fun i hi => (k.each i (by have := e'.len; omega)).same h (e'.each i (by have := e'.len; omega))⟩
theorem ShOk.same {x y : Sh} (h : ShSame x y) (k : ShOk x) : ShOk y := by
  have hl := h.its.len
  refine ⟨⟨by have := k.ls.len; omega, fun i hi => ?_⟩, fun i hi j hj => ?_, k.vo.same h.its h.vo, ⟨by rw [h.re]; exact k.re.few, fun i hi => ?_⟩⟩
  · have he := h.its.each i (by omega)
    rw [he.ns, he.ms]
    exact k.ls.each i (by omega)
  · have he := h.its.each i (by omega)
    rw [he.ms] at hj ⊢
    exact k.un i (by omega) j hj
  · rw [h.re] at hi ⊢
    exact ⟨(k.re.each i hi).nm.same h.its, (k.re.each i hi).mark⟩
theorem shOk_same {x y : Sh} (h : ShSame x y) : pB (ShOk x) = pB (ShOk y) := pB_iff ⟨fun k => k.same h, fun k => k.same h.symm⟩

theorem l1All_nomk (x : Im) (w : World) (hr : Lst w w.heap.size x.L x.ms) (hl : x.ms.length ≤ 1048576) :
    Calls Try.prog 61 #[.slice x.L x.ms.length x.d, .int .i64 0, .int .i64 0] w fun e w' => e = .returned (.bool (pB (NoMk x))) ∧ w = w' := by
  have HR := Lib.hid hr
  clear hr
  go_enter Try.func61, Try.ntmps61
  go_wp2
  go_loop [11] (fun i => ∃ k : Nat, k ≤ x.ms.length ∧ i = .int .i64 k ∧ Hid (∀ j, j < k → it x.ms j = 0)) (fun i => x.ms.length - (intOf i).toNat)
  case atStart => exact ⟨0, Nat.zero_le _, rfl, Lib.hid none_yet⟩
  case round =>
    obtain ⟨k, hk, rfl, HI⟩ := hrel
    by_cases hlt : k < x.ms.length
    · obtain ⟨b, o, hA, hbl, hc⟩ := HR.out.int (by omega)
      have hck := hc k hlt
      rw [hA]
      clear hc
      by_cases h : it x.ms k = 0
      · have HZ := Lib.hid h
        have h1 : 0 ≤ it x.ms k := by omega
        have h2 : it x.ms k ≤ 0 := by omega
        clear h
        go_wp2_with (go_at_call 62; refine (l1In_yes _ _ _ _ h1 h2).mono ?_; rintro e w2 ⟨rfl, rfl⟩)
        go_round
        case rel => exact ⟨k + 1, by omega, by go_num, Lib.hid (one_more HI.out HZ.out)⟩
        case measure => simp [intOf]; omega
      · have HV := Lib.hid (pB_no (fun hh : NoMk x => h (hh k hlt)))
        go_wp2_with (go_at_call 62; refine (l1In_no _ _ _ _ (by omega)).mono ?_; rintro e w2 ⟨rfl, rfl⟩)
        go_ret
        exact ⟨by rw [HV.out]; rfl, rfl⟩
    · obtain rfl : k = x.ms.length := by omega
      have HV := Lib.hid (pB_yes (show NoMk x from HI.out))
      go_wp2
      go_ret
      exact ⟨by rw [HV.out]; rfl, rfl⟩
theorem l1All_votes (A : Option Addr) (c : Nat) (xs : List Int) (w : World) (hr : Lst w w.heap.size A xs) (hl : xs.length ≤ 1048576) :
    Calls Try.prog 61 #[.slice A xs.length c, .int .i64 (-1), .int .i64 3] w fun e w' => e = .returned (.bool (pB (∀ j, j < xs.length → VtOk (it xs j)))) ∧ w' = w := by
  have HR := Lib.hid hr
  clear hr
  go_enter Try.func61, Try.ntmps61
  go_wp2
  go_loop [11] (fun i => ∃ k : Nat, k ≤ xs.length ∧ i = .int .i64 k ∧ Hid (∀ j, j < k → VtOk (it xs j))) (fun i => xs.length - (intOf i).toNat)
  case atStart => exact ⟨0, Nat.zero_le _, rfl, Lib.hid none_yet⟩
  case round =>
    obtain ⟨k, hk, rfl, HI⟩ := hrel
    by_cases hlt : k < xs.length
    · obtain ⟨b, o, rfl, hbl, hc⟩ := HR.out.int (by omega)
      have hck := hc k hlt
      clear hc
      by_cases h : VtOk (it xs k)
      · have HZ := Lib.hid h
        obtain ⟨h1, h2⟩ := h
        go_wp2_with (go_at_call 62; refine (l1In_yes _ _ _ _ h1 h2).mono ?_; rintro e w2 ⟨rfl, rfl⟩)
        go_round
        case rel => exact ⟨k + 1, by omega, by go_num, Lib.hid (one_more HI.out HZ.out)⟩
        case measure => simp [intOf]; omega
      · have HV := Lib.hid (pB_no (fun hh : ∀ j, j < xs.length → VtOk (it xs j) => h (hh k hlt)))
        have h' : it xs k < -1 ∨ 3 < it xs k := by unfold VtOk at h; omega
        go_wp2_with (go_at_call 62; refine (l1In_no _ _ _ _ (by omega)).mono ?_; rintro e w2 ⟨rfl, rfl⟩)
        go_ret
        exact ⟨by rw [HV.out]; rfl, rfl⟩
    · obtain rfl : k = xs.length := by omega
      have HV := Lib.hid (pB_yes (show ∀ j, j < xs.length → VtOk (it xs j) from HI.out))
      go_wp2
      go_ret
      exact ⟨by rw [HV.out]; rfl, rfl⟩
structure Clean (l : List Im) : Prop where
  ls : ListOk l
  un : NoMks l
theorem caClean_any (P : Option Addr) (c : Nat) (xs : List Im) (w : World) (hr : Ims w w.heap.size P xs) (hl : ImsFits xs) :
    Calls Try.prog 36 #[.slice P xs.length c] w fun e w' => e = .returned (.bool (pB (Clean xs))) ∧ Below w.heap.size w w' := by
  have HR := Lib.hid hr
  have HF := Lib.hid hl
  have hl' := hl.len
  clear hr hl
  by_cases hok : ListOk xs
  rotate_left
  · have HV := Lib.hid (pB_no (fun hh : Clean xs => hok hh.ls))
    have HV2 := Lib.hid (pB_no hok)
    go_enter Try.func36, Try.ntmps36
    go_wp2_with (go_at_call 60; refine (itList_any P c xs w HR.out HF.out).mono ?_; rintro e w1 ⟨rfl, hb1⟩; rw [HV2.out]; have HB1 := Lib.hid hb1; clear hb1)
    go_ret
    exact ⟨by rw [HV.out]; rfl, HB1.out⟩
  · have HV2 := Lib.hid (pB_yes hok)
    have HOK := Lib.hid hok
    clear hok
    go_enter Try.func36, Try.ntmps36
    go_wp2_with (go_at_call 60; refine (itList_any P c xs w HR.out HF.out).mono ?_; rintro e w1 ⟨rfl, hb1⟩; rw [HV2.out]; have HB1 := Lib.hid hb1; clear hb1)
    go_loopw [10] (fun i wr => ∃ k : Nat, k ≤ xs.length ∧ i = .int .i64 k ∧ Hid (∀ j, j < k → NoMk (it xs j)) ∧ Below w.heap.size w wr) (fun i _ => xs.length - (intOf i).toNat)
    case atStart => exact ⟨0, Nat.zero_le _, rfl, Lib.hid none_yet, HB1.out⟩
    case round =>
      obtain ⟨k, hk, rfl, HI, hb⟩ := hrel
      by_cases hlt : k < xs.length
      · obtain ⟨b, o, rfl, hbl, hc⟩ := HR.out.out.im (by omega)
        obtain ⟨c0, c1, c2⟩ := (hc k hlt).below hb hbl
        have HE := Lib.hid ((HR.out.each k hlt).next hb)
        have HL := Lib.hid (HF.out.each k hlt)
        have HB := Lib.hid hb
        have HC := Lib.hid (l1All_nomk (it xs k))
        clear hc hb
        by_cases h : NoMk (it xs k)
        · rw [pB_yes h] at HC
          have HZ := Lib.hid h
          clear h
          go_wp2_with (go_at_call 61; refine (HC.out _ (HE.out.next (below_alloc _ _)).ms HL.out.ms).mono ?_; rintro e w2 ⟨rfl, rfl⟩; have HB2 := Lib.hid (below_next HB.out (below_alloc _ (.cells #[.slice (it xs k).A (it xs k).ns.length (it xs k).c, .slice (it xs k).L (it xs k).ms.length (it xs k).d, .bool (it xs k).late] 56))))
          go_roundw
          case rel => exact ⟨k + 1, by omega, by go_num, Lib.hid (one_more HI.out HZ.out), HB2.out⟩
          case measure => simp [intOf]; omega
        · rw [pB_no h] at HC
          have HV := Lib.hid (pB_no (fun hh : Clean xs => h (hh.un k hlt)))
          clear h
          go_wp2_with (go_at_call 61; refine (HC.out _ (HE.out.next (below_alloc _ _)).ms HL.out.ms).mono ?_; rintro e w2 ⟨rfl, rfl⟩; have HB2 := Lib.hid (below_next HB.out (below_alloc _ (.cells #[.slice (it xs k).A (it xs k).ns.length (it xs k).c, .slice (it xs k).L (it xs k).ms.length (it xs k).d, .bool (it xs k).late] 56))))
          go_ret
          exact ⟨by rw [HV.out]; rfl, HB2.out⟩
      · obtain rfl : k = xs.length := by omega
        have HV := Lib.hid (pB_yes (⟨HOK.out, HI.out⟩ : Clean xs))
        go_wp2
        go_ret
        exact ⟨by rw [HV.out]; rfl, hb⟩
end Go.Proofs.Ytbhfhjhegcfdkaa
