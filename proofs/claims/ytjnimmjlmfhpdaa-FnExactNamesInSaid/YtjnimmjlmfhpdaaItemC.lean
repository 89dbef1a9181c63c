/- How often each mark occurs, in the model and in the program. -/
import Derived.Test.YtjnimmjlmfhpdaaItemH
namespace Go.Proofs.Ytjnimmjlmfhpdaa
open Go.ChangeShapes Go.WideShapes Go.ChangeAt Go.RowKit
set_option linter.unusedVariables false

def bump (l : List Int) (n : Nat) : List Int := l.set n (it l n + 1)
/-- The counts with the first j of some marks. -/
def cntM (l : List Int) (ms : List Int) : Nat → List Int
  | 0 => l
  | j + 1 => bump (cntM l ms j) (it ms j).toNat
/-- The counts of the first k items. -/
def cntX (xs : List Im) : Nat → List Int
  | 0 => List.replicate 4 0
  | k + 1 => cntM (cntX xs k) (it xs k).ms (it xs k).ms.length
theorem bump_len (l : List Int) (n : Nat) : (bump l n).length = l.length := by simp [bump]
theorem cntM_len (l ms : List Int) : ∀ j, (cntM l ms j).length = l.length
  | 0 => rfl
  | j + 1 => by rw [cntM, bump_len, cntM_len l ms j]
theorem cntX_len (xs : List Im) : ∀ k, (cntX xs k).length = 4
  | 0 => rfl
  | k + 1 => by rw [cntX, cntM_len, cntX_len xs k]
/-- No count is negative or above a bound. -/
def Small (l : List Int) (b : Int) : Prop := ∀ i, i < l.length → 0 ≤ it l i ∧ it l i ≤ b
theorem small_bump {l : List Int} {b : Int} (h : Small l b) (n : Nat) (hb : 0 ≤ b) : Small (bump l n) (b + 1) := fun i hi => by
  rw [bump_len] at hi
  have hi' := h i hi
  unfold bump
  by_cases hn : n < l.length
  · rw [it_set _ _ _ _ hn]
    by_cases e : i = n
    · subst e
      rw [if_pos rfl]
      omega
    · rw [if_neg e]
      omega
  · rw [List.set_eq_of_length_le (by omega)]
    omega
theorem small_cntM {l : List Int} {b : Int} (h : Small l b) (hb : 0 ≤ b) (ms : List Int) : ∀ j : Nat, Small (cntM l ms j) (b + j)
  | 0 => by simpa [cntM] using h
  | j + 1 => by
    have := small_bump (small_cntM h hb ms j) (it ms j).toNat (by omega)
    rw [cntM]
    intro i hi
    have := this i hi
    omega
theorem small_cntX (xs : List Im) (hl : ListOk xs) : ∀ k : Nat, k ≤ xs.length → Small (cntX xs k) (3 * k)
  | 0, _ => fun i hi => by
    rw [cntX_len] at hi
    have : it (cntX xs 0) i = 0 := by
      unfold it cntX
      rw [List.getD_eq_getElem?_getD, List.getElem?_replicate, if_pos hi]
      rfl
    rw [this]
    simp
  | k + 1, hk => by
    have h1 := small_cntM (small_cntX xs hl k (by omega)) (by omega) (it xs k).ms (it xs k).ms.length
    have h2 := hl.each k (by omega)
    have h3 := h2.eq
    have h4 := h2.hi
    rw [cntX]
    intro i hi
    have := h1 i hi
    omega
/-- The counts, or nothing of a list that is not valid. -/
noncomputable def cntF (xs : List Im) : List Int := @ite _ (ListOk xs) (Classical.propDecidable _) (cntX xs xs.length) []
theorem cntF_yes {xs : List Im} (h : ListOk xs) : cntF xs = cntX xs xs.length := by unfold cntF; rw [if_pos h]
theorem cntF_no {xs : List Im} (h : ¬ ListOk xs) : cntF xs = [] := by unfold cntF; rw [if_neg h]
theorem ListOk.same {xs ys : List Im} (h : SameS xs ys) (k : ListOk xs) : ListOk ys :=
  ⟨by have := h.len; have := k.len; omega, fun i hi => by have hk := k.each i (by have := h.len; omega); have he := h.each i (by have := h.len; omega); rw [he.ns, he.ms]; exact hk⟩
theorem cntX_same {xs ys : List Im} (h : SameS xs ys) : ∀ k, k ≤ xs.length → cntX ys k = cntX xs k
  | 0, _ => rfl
  | k + 1, hk => by rw [cntX, cntX, cntX_same h k (by omega), (h.each k (by omega)).ms]
theorem cntF_same {xs ys : List Im} (h : SameS xs ys) : cntF ys = cntF xs := by
  by_cases k : ListOk xs
  · rw [cntF_yes k, cntF_yes (k.same h), h.len, cntX_same h _ (Nat.le_refl _)]
  · rw [cntF_no k, cntF_no (fun q => k (q.same h.symm))]
theorem cntF_len (xs : List Im) : (cntF xs).length ≤ 4 := by
  by_cases k : ListOk xs
  · rw [cntF_yes k, cntX_len]; exact Nat.le_refl _
  · rw [cntF_no k]; simp
/-- What a law's walk asks of an answer. -/
structure Short {α : Type} (l : List α) : Prop where
  len : l.length ≤ 1048576
theorem cntF_small (xs : List Im) : Short (cntF xs) := ⟨by have := cntF_len xs; omega⟩

set_option maxHeartbeats 1000000 in
theorem sCountMarks_any (P : Option Addr) (c : Nat) (xs : List Im) (w : World) (hr : Ims w w.heap.size P xs) (hl : ImsFits xs) :
    Calls Try.prog 35 #[.slice P xs.length c] w fun e w' => (∃ R d, e = .returned (.tuple #[.slice R (cntF xs).length d, .bool (pB (ListOk xs))]) ∧ Owned (fun i => w.heap.size ≤ i ∧ i < w'.heap.size) w' R (cntF xs)) ∧ Below w.heap.size w w' := by
  have HA := Lib.hid (itList_any P c xs w hr hl)
  have HR := Lib.hid hr
  have hl' := hl.len
  clear hr hl
  by_cases hok : ListOk xs
  · rw [pB_yes hok] at HA ⊢
    rw [cntF_yes hok]
    obtain ⟨i0, hi, hz0, hz1, hz2⟩ := info_parts Try.infoInt
    have HZ := Lib.hid (made_flat (α := Int) #[.int .i64 0] 0 4 rfl (by decide))
    have HS := Lib.hid (small_cntX xs hok)
    have HK := Lib.hid hok
    have h14 := hok.len
    clear hok
    go_enter Try.func35, Try.ntmps35
    go_wp2_with fail
    refine HA.out.mono ?_
    rintro e w1 ⟨rfl, hb1⟩
    have HB1 := Lib.hid hb1
    have hs01 := hb1.size
    clear hb1 HA
    go_wp2_with (at_make; refine wpList_make_full _ rfl (.const (.int .i64 4)) (.const (.int .i64 4)) 24 rfl w1.heap.size 3 i0 (.int .i64 0) 1 Try.underlying24 hi hz0 hz1 .i64 .i64 _ _ 4 rfl rfl rfl rfl (by rw [hz2]; omega) (by unfold maxLen; omega) (Nat.le_refl _) ?_; intro w2 hown hgrow)
    have HW := Lib.hid (show OwnAt w2 w1.heap.size 0 (cntX xs 0) from own_of_row (α := Int) (cap := 4) (e := 3) (base := w1.heap.size) (List.replicate 4 (0 : Int)) (by rw [← HZ.out]; exact hown))
    have hb2 : Below w1.heap.size w1 w2 := (Below.refl _ _).grown hgrow (Nat.le_refl _) (fun k e => by cases e)
    have hs2 := (hown.lt w1.heap.size rfl).2
    have HB2 := Lib.hid (below_next HB1.out hb2)
    clear hown hgrow hb2
    go_loopw [15] (fun i wr => ∃ k : Nat, k ≤ xs.length ∧ i = .int .i64 k ∧ Hid (OwnAt wr w1.heap.size 0 (cntX xs k)) ∧ w1.heap.size < wr.heap.size ∧ Below w.heap.size w wr) (fun i _ => xs.length - (intOf i).toNat)
    case atStart => exact ⟨0, Nat.zero_le _, rfl, HW, hs2, HB2.out⟩
    case round =>
      obtain ⟨k, hk, rfl, HO, hsr, hb⟩ := hrel
      by_cases hlt : k < xs.length
      · obtain ⟨b, o, rfl, hbl, hc⟩ := HR.out.out.im (by omega)
        obtain ⟨c0, c1, c2⟩ := (hc k hlt).below hb hbl
        have hitem := HK.out.each k hlt
        have hm1 := hitem.eq
        have hm2 := hitem.hi
        have hm0 := hitem.lo
        have hm : (it xs k).ms.length ≤ 3 := by omega
        obtain ⟨b', o', hA', hbl', hc'⟩ := (HR.out.each k hlt).ms.int (by omega)
        rw [hA'] at c1
        have HM := Lib.hid hc'
        have HMK := Lib.hid hitem.mks
        have HO3 := fun ob => HO.out.block ((below_alloc wr ob).block w1.heap.size hsr)
        have HB3 := fun ob => below_next hb (below_alloc wr ob)
        have HS3 := Lib.hid (small_cntM (HS.out k (by omega)) (by omega) (it xs k).ms)
        clear hc hc' hb hm1 hm2 hm0 hitem hA'
        go_wp2_with fail
        clear c0 c1 c2
        generalize hw3 : World.alloc wr _ = w3
        have HO3' := Lib.hid (hw3 ▸ HO3 _)
        have HB3' := Lib.hid (hw3 ▸ HB3 _)
        have hs3 : w1.heap.size < w3.heap.size := by rw [← hw3]; simp; omega
        clear hw3 HO3 HB3
        go_loopw [22] (fun i ws => ∃ j : Nat, j ≤ (it xs k).ms.length ∧ i = .int .i64 j ∧ Hid (OwnAt ws w1.heap.size 0 (cntM (cntX xs k) (it xs k).ms j)) ∧ w1.heap.size < ws.heap.size ∧ Below w.heap.size w ws) (fun i _ => (it xs k).ms.length - (intOf i).toNat)
        case atStart => exact ⟨0, Nat.zero_le _, rfl, HO3', hs3, HB3'.out⟩
        case round =>
          obtain ⟨j, hj, rfl, HO4, hs4, hb4⟩ := hrel
          by_cases hjl : j < (it xs k).ms.length
          · have hv := (hb4.cell (p := ⟨b', o' + j, none⟩) hbl').trans (HM.out j hjl)
            obtain ⟨m1, m2⟩ := HMK.out j hjl
            obtain ⟨n, hn⟩ : ∃ n : Nat, it (it xs k).ms j = (n : Int) := ⟨_, (Int.toNat_of_nonneg m1).symm⟩
            rw [hn] at hv m2
            have hn3 : n < 4 := by omega
            have hlen : n < (cntM (cntX xs k) (it xs k).ms j).length := by rw [cntM_len, cntX_len]; exact hn3
            obtain ⟨d0, f0⟩ := HO4.out.int0 n hlen
            obtain ⟨s1, s2⟩ := HS3.out j n hlen
            have HP := Lib.hid (HO4.out.putInt0 n (it (cntM (cntX xs k) (it xs k).ms j) n + 1) hlen)
            rw [show (cntM (cntX xs k) (it xs k).ms j).set n (it (cntM (cntX xs k) (it xs k).ms j) n + 1) = cntM (cntX xs k) (it xs k).ms (j + 1) by rw [cntM, hn]; rfl] at HP
            have HB4 := Lib.hid hb4
            clear hb4 hn hlen
            go_wp2
            go_roundw
            case rel => exact ⟨j + 1, by omega, by go_num, HP, by simpa [World.setCell] using hs4, HB4.out.setCell hs01 _⟩
            case measure => simp [intOf]; omega
          · obtain rfl : j = (it xs k).ms.length := by omega
            have HB4 := Lib.hid hb4
            clear hb4
            go_wp2
            go_roundw
            case rel => exact ⟨k + 1, by omega, by go_num, HO4, hs4, HB4.out⟩
            case measure => simp [intOf]; omega
      · obtain rfl : k = xs.length := by omega
        go_wp2
        go_returns
        rw [cntX_len]
        exact ⟨⟨_, 4, rfl, fun _ => ⟨_, 0, rfl, ⟨hs01, hsr⟩, hsr, HO.out⟩⟩, hb⟩
  · have HV := Lib.hid (cntF_no hok)
    rw [pB_no hok] at HA ⊢
    rw [cntF_no hok]
    clear hok HV
    go_enter Try.func35, Try.ntmps35
    go_wp2_with fail
    refine HA.out.mono ?_
    rintro e w1 ⟨rfl, hb1⟩
    have HB1 := Lib.hid hb1
    clear hb1 HA
    go_wp2
    go_returns
    exact ⟨⟨none, 0, rfl, Owned.nil _ _ _⟩, HB1.out⟩

set_option maxHeartbeats 1000000 in
theorem iCountMarks_any (P : Option Addr) (c : Nat) (xs : List Im) (w : World) (hr : Ims w w.heap.size P xs) (hl : ImsFits xs) :
    Calls Try.prog 36 #[.slice P xs.length c] w fun e w' => (∃ R d, e = .returned (.tuple #[.slice R (cntF xs).length d, .bool (pB (ListOk xs))]) ∧ Owned (fun i => w.heap.size ≤ i ∧ i < w'.heap.size) w' R (cntF xs)) ∧ Below w.heap.size w w' := by
  have HA := Lib.hid (iAreItems_any P c xs w hr hl)
  have HR := Lib.hid hr
  have hl' := hl.len
  clear hr hl
  by_cases hok : ListOk xs
  · rw [pB_yes hok] at HA ⊢
    rw [cntF_yes hok]
    obtain ⟨i0, hi, hz0, hz1, hz2⟩ := info_parts Try.infoInt
    have HZ := Lib.hid (made_flat (α := Int) #[.int .i64 0] 0 4 rfl (by decide))
    have HS := Lib.hid (small_cntX xs hok)
    have HK := Lib.hid hok
    have h14 := hok.len
    clear hok
    go_enter Try.func36, Try.ntmps36
    go_wp2_with fail
    refine HA.out.mono ?_
    rintro e w1 ⟨rfl, hb1⟩
    have HB1 := Lib.hid hb1
    have hs01 := hb1.size
    clear hb1 HA
    go_wp2_with (at_make; refine wpList_make_full _ rfl (.const (.int .i64 4)) (.const (.int .i64 4)) 24 rfl w1.heap.size 3 i0 (.int .i64 0) 1 Try.underlying24 hi hz0 hz1 .i64 .i64 _ _ 4 rfl rfl rfl rfl (by rw [hz2]; omega) (by unfold maxLen; omega) (Nat.le_refl _) ?_; intro w2 hown hgrow)
    have HW := Lib.hid (show OwnAt w2 w1.heap.size 0 (cntX xs 0) from own_of_row (α := Int) (cap := 4) (e := 3) (base := w1.heap.size) (List.replicate 4 (0 : Int)) (by rw [← HZ.out]; exact hown))
    have hb2 : Below w1.heap.size w1 w2 := (Below.refl _ _).grown hgrow (Nat.le_refl _) (fun k e => by cases e)
    have hs2 := (hown.lt w1.heap.size rfl).2
    have HB2 := Lib.hid (below_next HB1.out hb2)
    clear hown hgrow hb2
    go_loopw [15] (fun i wr => ∃ k : Nat, k ≤ xs.length ∧ i = .int .i64 k ∧ Hid (OwnAt wr w1.heap.size 0 (cntX xs k)) ∧ w1.heap.size < wr.heap.size ∧ Below w.heap.size w wr) (fun i _ => xs.length - (intOf i).toNat)
    case atStart => exact ⟨0, Nat.zero_le _, rfl, HW, hs2, HB2.out⟩
    case round =>
      obtain ⟨k, hk, rfl, HO, hsr, hb⟩ := hrel
      by_cases hlt : k < xs.length
      · obtain ⟨b, o, rfl, hbl, hc⟩ := HR.out.out.im (by omega)
        obtain ⟨c0, c1, c2⟩ := (hc k hlt).below hb hbl
        have hitem := HK.out.each k hlt
        have hm1 := hitem.eq
        have hm2 := hitem.hi
        have hm0 := hitem.lo
        have hm : (it xs k).ms.length ≤ 3 := by omega
        obtain ⟨b', o', hA', hbl', hc'⟩ := (HR.out.each k hlt).ms.int (by omega)
        rw [hA'] at c1
        have HM := Lib.hid hc'
        have HMK := Lib.hid hitem.mks
        have HO3 := fun ob => HO.out.block ((below_alloc wr ob).block w1.heap.size hsr)
        have HB3 := fun ob => below_next hb (below_alloc wr ob)
        have HS3 := Lib.hid (small_cntM (HS.out k (by omega)) (by omega) (it xs k).ms)
        clear hc hc' hb hm1 hm2 hm0 hitem hA'
        go_wp2_with fail
        clear c0 c1 c2
        generalize hw3 : World.alloc wr _ = w3
        have HO3' := Lib.hid (hw3 ▸ HO3 _)
        have HB3' := Lib.hid (hw3 ▸ HB3 _)
        have hs3 : w1.heap.size < w3.heap.size := by rw [← hw3]; simp; omega
        clear hw3 HO3 HB3
        go_loopw [22] (fun i ws => ∃ j : Nat, j ≤ (it xs k).ms.length ∧ i = .int .i64 j ∧ Hid (OwnAt ws w1.heap.size 0 (cntM (cntX xs k) (it xs k).ms j)) ∧ w1.heap.size < ws.heap.size ∧ Below w.heap.size w ws) (fun i _ => (it xs k).ms.length - (intOf i).toNat)
        case atStart => exact ⟨0, Nat.zero_le _, rfl, HO3', hs3, HB3'.out⟩
        case round =>
          obtain ⟨j, hj, rfl, HO4, hs4, hb4⟩ := hrel
          by_cases hjl : j < (it xs k).ms.length
          · have hv := (hb4.cell (p := ⟨b', o' + j, none⟩) hbl').trans (HM.out j hjl)
            obtain ⟨m1, m2⟩ := HMK.out j hjl
            obtain ⟨n, hn⟩ : ∃ n : Nat, it (it xs k).ms j = (n : Int) := ⟨_, (Int.toNat_of_nonneg m1).symm⟩
            rw [hn] at hv m2
            have hn3 : n < 4 := by omega
            have hlen : n < (cntM (cntX xs k) (it xs k).ms j).length := by rw [cntM_len, cntX_len]; exact hn3
            obtain ⟨d0, f0⟩ := HO4.out.int0 n hlen
            obtain ⟨s1, s2⟩ := HS3.out j n hlen
            have HP := Lib.hid (HO4.out.putInt0 n (it (cntM (cntX xs k) (it xs k).ms j) n + 1) hlen)
            rw [show (cntM (cntX xs k) (it xs k).ms j).set n (it (cntM (cntX xs k) (it xs k).ms j) n + 1) = cntM (cntX xs k) (it xs k).ms (j + 1) by rw [cntM, hn]; rfl] at HP
            have HB4 := Lib.hid hb4
            clear hb4 hn hlen
            go_wp2
            go_roundw
            case rel => exact ⟨j + 1, by omega, by go_num, HP, by simpa [World.setCell] using hs4, HB4.out.setCell hs01 _⟩
            case measure => simp [intOf]; omega
          · obtain rfl : j = (it xs k).ms.length := by omega
            have HB4 := Lib.hid hb4
            clear hb4
            go_wp2
            go_roundw
            case rel => exact ⟨k + 1, by omega, by go_num, HO4, hs4, HB4.out⟩
            case measure => simp [intOf]; omega
      · obtain rfl : k = xs.length := by omega
        go_wp2
        go_returns
        rw [cntX_len]
        exact ⟨⟨_, 4, rfl, fun _ => ⟨_, 0, rfl, ⟨hs01, hsr⟩, hsr, HO.out⟩⟩, hb⟩
  · have HV := Lib.hid (cntF_no hok)
    rw [pB_no hok] at HA ⊢
    rw [cntF_no hok]
    clear hok HV
    go_enter Try.func36, Try.ntmps36
    go_wp2_with fail
    refine HA.out.mono ?_
    rintro e w1 ⟨rfl, hb1⟩
    have HB1 := Lib.hid hb1
    clear hb1 HA
    go_wp2
    go_returns
    exact ⟨⟨none, 0, rfl, Owned.nil _ _ _⟩, HB1.out⟩
end Go.Proofs.Ytjnimmjlmfhpdaa
