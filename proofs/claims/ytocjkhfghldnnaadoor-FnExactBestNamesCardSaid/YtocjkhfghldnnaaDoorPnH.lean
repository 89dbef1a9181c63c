/- Which elements the model chooses; MostSingles in the model. -/
import Derived.Test.YtocjkhfghldnnaaDoorPnE
import Derived.Test.YtocjkhfghldnnaaDoorPgN
import Derived.Test.YtocjkhfghldnnaaDoorCdA
import Derived.Deep.QuietTactic
import Derived.BigQuiet
namespace Go.Proofs.YtocjkhfghldnnaaDoor
open Go.ChangeShapes Go.WideShapes Go.ChangeAt Go.RowKit Go.PlainAid Go.Sort
set_option linter.unusedVariables false

/-- Is a number in a list? -/
theorem l1Has_any (A : Option Addr) (c : Nat) (l : List Int) (n : Int) (w : World) (hr : Lst w w.heap.size A l) (hl : l.length ≤ 1048576) :
    Calls Tryd.prog 50 #[.slice A l.length c, .int .i64 n] w fun e w' => e = .returned (.bool (decide (n ∈ l))) ∧ w' = w := by
  have HR := Lib.hid hr
  clear hr
  go_enter Tryd.func50, Tryd.ntmps50
  go_wp2
  go_loopw [9] (fun v wr => ∃ k : Nat, k ≤ l.length ∧ v = .int .i64 k ∧ Hid (∀ i, i < k → it l i ≠ n) ∧ wr = w) (fun v _ => l.length - (intOf v).toNat)
  case atStart => exact ⟨0, Nat.zero_le _, rfl, Lib.hid (fun i hi => absurd hi (by omega)), rfl⟩
  case round =>
    obtain ⟨k, hk, rfl, HI, rfl⟩ := hrel
    by_cases hlt : k < l.length
    · obtain ⟨b, o, rfl, hbl, hc⟩ := HR.out.int (by omega)
      have c0 := hc k hlt
      clear hc
      by_cases he : it l k = n
      · have HM := Lib.hid (show n ∈ l from by
          rw [← he]
          have := it_get l k hlt
          exact List.mem_of_getElem? this)
        have q1 : it l k ≤ n := by omega
        have q2 : n ≤ it l k := by omega
        clear he
        go_wp2
        go_ret
        exact ⟨by rw [decide_eq_true HM.out] <;> rfl, rfl⟩
      · have HI2 := Lib.hid (show ∀ i, i < k + 1 → it l i ≠ n from fun i hi => by
          by_cases e : i = k
          · rw [e]; exact he
          · exact HI.out i (by omega))
        have q1 : it l k < n ∨ n < it l k := by omega
        clear he
        rcases q1 with q1 | q1
        all_goals
          go_wp2
          go_roundw
          case rel => exact ⟨k + 1, by omega, by go_num, HI2, by first | trivial | rfl⟩
          case measure => simp [intOf]; omega
    · obtain rfl : k = l.length := by omega
      have HM := Lib.hid (show ¬ n ∈ l from fun h => by
        obtain ⟨i, hi, e⟩ := List.getElem_of_mem h
        refine HI.out i hi ?_
        have := it_get l i hi
        rw [List.getElem?_eq_getElem hi] at this
        rw [← Option.some.inj this, e])
      go_wp2
      go_ret
      exact ⟨by rw [decide_eq_false HM.out] <;> rfl, rfl⟩

theorem row_lst {w : World} {B : Nat} {v : Value} {xs : List Int} (h : w.ownsRow B 3 1 v xs.length (xs.map (Value.int .i64))) : ∃ A c, v = .slice A xs.length c ∧ Lst w w.heap.size A xs := by
  obtain ⟨A, c, rfl, ho⟩ := own_row xs h
  exact ⟨A, c, rfl, ho.lst⟩
theorem row_push {w : World} {B : Nat} {v : Value} {xs : List Int} {b : Int} (h : w.ownsRow B 3 1 v (xs.length + 1) (xs.map (Value.int .i64) ++ [.int .i64 b])) : ∃ A c, v = .slice A (xs.length + 1) c ∧ w.ownsRow B 3 1 v (xs ++ [b]).length ((xs ++ [b]).map (Value.int .i64)) := by
  have h2 : w.ownsRow B 3 1 v (xs ++ [b]).length ((xs ++ [b]).map (Value.int .i64)) := by
    rw [List.length_append, List.map_append]
    exact h
  obtain ⟨A, c, rfl, _⟩ := row_lst h2
  exact ⟨A, c, by rw [List.length_append] <;> rfl, h2⟩
/-- A slice's length. -/
def vlen : Value → Nat
  | .slice _ k _ => k
  | _ => 0
theorem l1Has_yes (A : Option Addr) (c : Nat) (l : List Int) (n : Int) (w : World) (hr : Lst w w.heap.size A l) (hl : l.length ≤ 1048576) (h : n ∈ l) :
    Calls Tryd.prog 50 #[.slice A l.length c, .int .i64 n] w fun e w' => e = .returned (.bool true) ∧ w' = w := by
  have := l1Has_any A c l n w hr hl
  rwa [decide_eq_true h] at this
theorem l1Has_no (A : Option Addr) (c : Nat) (l : List Int) (n : Int) (w : World) (hr : Lst w w.heap.size A l) (hl : l.length ≤ 1048576) (h : ¬ n ∈ l) :
    Calls Tryd.prog 50 #[.slice A l.length c, .int .i64 n] w fun e w' => e = .returned (.bool false) ∧ w' = w := by
  have := l1Has_any A c l n w hr hl
  rwa [decide_eq_false h] at this

set_option maxRecDepth 20000 in
set_option maxHeartbeats 8000000 in
theorem pnChoose_any (A L : Option Addr) (c d : Nat) (x : Cd) (n : Nat) (w : World) (hr : CdAt w A L x) (hok : CdOk x) (hn : n ≤ 14) :
    Calls Tryd.prog 25 #[x.val A c L d, .int .i64 n] w fun e w' => (∃ A' c', e = .returned (.slice A' (chTo x n).out.length c') ∧ Lst w' w'.heap.size A' (chTo x n).out) ∧ Below w.heap.size w w' := by
  obtain ⟨W, hW, hB⟩ := boxed 31 w A c L d x
  have HB := Lib.hid hB
  have HX := Lib.hid hB.at_
  have HR := Lib.hid (hr.below hB.below)
  have HK := Lib.hid hok
  clear hr hok hB
  obtain ⟨b, o, rfl, hbl, hce⟩ := HR.out.els.el (by have := HK.out.els.lo; omega)
  have HEL := Lib.hid (fun (w' : World) (h : Below W.heap.size W w') (i : Nat) (hi : i < x.els.length) => (hce i hi).below h hbl)
  clear hce
  unfold boxCd at hW
  unfold Cd.val
  obtain ⟨i0, hi, hz0, hz1, hz2⟩ := info_parts Tryd.infoInt
  have HZ := Lib.hid (And.intro hi (And.intro hz0 (And.intro hz1 hz2)))
  clear hi hz0 hz1 hz2
  go_enter Tryd.func25, Tryd.ntmps25
  obtain ⟨x0, x1, x2, x3, x4, x5⟩ := HX.out.box
  rw [hW] at x0 x1 x2 x3 x4 x5
  go_wp2_with fail
  rw [← hW]
  clear hW x0 x1 x2 x3 x4 x5
  refine (l1Own_any L d x.lims W HR.out.lims (by rw [HK.out.lims.len]; omega) (by rw [HK.out.lims.len]; omega)).mono ?_
  rintro e w1 ⟨gr, cr, rfl, hor, hg1, hg2, hb1⟩
  have HB1 := Lib.hid hb1
  have HOR := Lib.hid hor
  have hWs := HB.out.size
  have hgx : gr ≠ w.heap.size := by have := HB.out.size; omega
  clear hb1 hor
  go_wp2
  go_loopw [5, 7] (fun v bv wr => ∃ j : Nat, j ≤ n ∧ Hid (wr.ownsRow w1.heap.size 3 1 v (chTo x j).out.length ((chTo x j).out.map (Value.int .i64))) ∧ (chTo x j).out.length = j ∧ Hid (OwnAt wr gr 0 (chTo x j).room) ∧ w1.heap.size ≤ wr.heap.size ∧ Hid (Below W.heap.size W wr)) (fun v _ _ => n - vlen v)
  case atStart => exact ⟨0, Nat.zero_le _, Lib.hid (World.ownsRow_nil w1 _ _ _), rfl, HOR, Nat.le_refl _, HB1⟩
  case round =>
    obtain ⟨j, hj, HO, hlen, HRM, hsz, HBR⟩ := hrel
    have HXR := Lib.hid (HX.out.next HBR.out)
    have HRR := Lib.hid (HR.out.below HBR.out)
    obtain ⟨wo, rfl⟩ : ∃ wo : World, wo = wr := ⟨_, rfl⟩
    obtain ⟨A1, c1, rfl, hl1⟩ := row_lst HO.out
    have HL1 := Lib.hid hl1
    clear hl1
    have HLEN := Lib.hid hlen
    have hln := chTo_len x j
    by_cases hjn : j < n
    rotate_left
    · have hl1 : (n : Int) ≤ ((chTo x j).out.length : Int) := by omega
      have HJN := Lib.hid (show j = n by omega)
      clear hlen
      go_wp2
      go_ret
      rw [← HJN.out]
      exact ⟨⟨_, _, rfl, HL1.out⟩, Below_next HB.out.below HBR.out⟩
    have hl1 : ((chTo x j).out.length : Int) < (n : Int) := by omega
    have hl2 : (chTo x j).out.length ≤ 1048576 := by omega
    clear hlen
    obtain ⟨x0, x1, x2, x3, x4, x5⟩ := HXR.out.box
    have HRL := Lib.hid (chTo_room x j)
    have hel := HK.out.els.hi
    have hll := HK.out.lims.len
    have HLL := Lib.hid hll
    clear hll
    go_wp2
    clear x0 x1 x2 x3 x4 x5
    go_loopw [7, 20] (fun bv v wr => ∃ k : Nat, k ≤ x.els.length ∧ v = .int .i64 k ∧ bv = .int .i64 (bstI x (chTo x j).room (chTo x j).out k) ∧ Hid (Below wo.heap.size wo wr)) (fun _ v _ => x.els.length - (intOf v).toNat)
    case atStart => exact ⟨0, Nat.zero_le _, rfl, rfl, Lib.hid (Below.refl _ _)⟩
    case round =>
      obtain ⟨k, hk, rfl, rfl, HBV⟩ := hrel
      have hble := bstI_le x (chTo x j).room (chTo x j).out k
      by_cases hlt : k < x.els.length
      · have HBX := Lib.hid (HBR.out.trans (HBV.out.mono HBR.out.size))
        obtain ⟨c0, c1', c2, c3⟩ := HEL.out wr HBX.out k hlt
        have HCE := Lib.hid (fun (w' : World) (h : Below wr.heap.size wr w') (i : Nat) (hi : i < x.els.length) => (HEL.out w' (HBX.out.trans (h.mono HBX.out.size)) i hi).c3)
        have HXV := Lib.hid (HXR.out.next HBV.out)
        have HLV := Lib.hid (HL1.out.next HBV.out)
        have HRV := Lib.hid (HRM.out.block (HBV.out.block gr (by omega)))
        have hfam := (HK.out.els.el k hlt).fam
        obtain ⟨f0, hf0⟩ : ∃ f0 : Nat, (it x.els k).fam = (f0 : Int) := ⟨(it x.els k).fam.toNat, by omega⟩
        have hf5 : f0 < (chTo x j).room.length := by rw [HRL.out, HLL.out]; omega
        have hws := HBV.out.size
        rw [hf0] at c1'
        go_wp2
        clear c0 c1' c2 c3
        have HE1 := Lib.hid (show (wr.alloc (.cells #[.string (it x.els k).name, .int .i64 (f0 : Int), .int .i64 (it x.els k).lev, .int .i64 (it x.els k).base] 50)).cell? ⟨wr.heap.size, 1, none⟩ = some (.int .i64 (f0 : Int)) from by simp)
        have HE3 := Lib.hid (show (wr.alloc (.cells #[.string (it x.els k).name, .int .i64 (f0 : Int), .int .i64 (it x.els k).lev, .int .i64 (it x.els k).base] 50)).cell? ⟨wr.heap.size, 3, none⟩ = some (.int .i64 (it x.els k).base) from by simp)
        have hb6 := below_alloc wr (.cells #[.string (it x.els k).name, .int .i64 (f0 : Int), .int .i64 (it x.els k).lev, .int .i64 (it x.els k).base] 50)
        generalize hw6 : World.alloc wr _ = w6 at HE1 HE3 hb6 ⊢
        clear hw6
        have HB6 := Lib.hid (fun q => (Below_next HBV.out hb6).trans (below_drewM wo.heap.size w6 q))
        have HL6 := Lib.hid (HLV.out.next hb6)
        obtain ⟨r0, rf⟩ := (HRV.out.block (hb6.block gr (by omega))).int0 f0 hf5
        have e1 := HE1.out
        have e3 := HE3.out
        have hX0 := (HXV.out.next hb6).box.c0
        have HC6 := Lib.hid (fun i hi => HCE.out w6 hb6 i hi)
        have hfl : (f0 : Int) < (x.lims.length : Int) := by rw [HLL.out]; omega
        have hf00 : (0 : Int) ≤ (f0 : Int) := by omega
        have HF0 := Lib.hid (show (it x.els k).fam.toNat = f0 by omega)
        clear hb6 HE1 HE3 rf hf0 hfam
        by_cases hroom : 0 < it (chTo x j).room f0
        rotate_left
        · have hd : decide (it (chTo x j).room f0 > 0) = false := decide_eq_false (by omega)
          have HN := Lib.hid (bstI_no (x := x) (room := (chTo x j).room) (out := (chTo x j).out) (k := k) (fun h => hroom (by have := h.1; rwa [HF0.out] at this)))
          clear hroom
          go_quiet (fail)
          go_wp2
          go_roundw
          case rel => exact ⟨k + 1, by omega, by go_num, by rw [HN.out], Lib.hid (HB6.out _)⟩
          case measure => simp [intOf]; omega
        have hd : decide (it (chTo x j).room f0 > 0) = true := decide_eq_true (by omega)
        by_cases hin : (k : Int) ∈ (chTo x j).out
        · have HIN := Lib.hid hin
          have HN := Lib.hid (bstI_no (x := x) (room := (chTo x j).room) (out := (chTo x j).out) (k := k) (fun h => h.2.1 hin))
          clear hin
          go_quiet (first | (go_at_call 50; refine Calls.quiet_of_same (l1Has_yes A1 c1 (chTo x j).out k _ (HL6.out.drewN _) hl2 HIN.out)))
          go_wp2
          go_roundw
          case rel => exact ⟨k + 1, by omega, by go_num, by rw [HN.out], Lib.hid (HB6.out _)⟩
          case measure => simp [intOf]; omega
        have HIN := Lib.hid hin
        by_cases hneg : bstI x (chTo x j).room (chTo x j).out k < 0
        · have HY := Lib.hid (bstI_yes (x := x) (room := (chTo x j).room) (out := (chTo x j).out) (k := k) ⟨by rw [HF0.out]; exact hroom, hin, .inl hneg⟩)
          have hd2 : decide (bstI x (chTo x j).room (chTo x j).out k < 0) = true := decide_eq_true hneg
          clear hin
          go_quiet (first | (go_at_call 50; refine Calls.quiet_of_same (l1Has_no A1 c1 (chTo x j).out k _ (HL6.out.drewN _) hl2 HIN.out)))
          go_wp2
          go_roundw
          case rel => exact ⟨k + 1, by omega, by go_num, by rw [HY.out], Lib.hid (HB6.out _)⟩
          case measure => simp [intOf]; omega
        obtain ⟨bn, hbn⟩ : ∃ bn : Nat, bstI x (chTo x j).room (chTo x j).out k = (bn : Int) := ⟨(bstI x (chTo x j).room (chTo x j).out k).toNat, by omega⟩
        have hbl' : bn < x.els.length := by omega
        have hb3 := HC6.out bn hbl'
        have HBN := Lib.hid hbn
        rw [hbn]
        have hd2 : decide ((bn : Int) < 0) = false := decide_eq_false (by omega)
        by_cases hbase : (it x.els bn).base < (it x.els k).base
        · have HY := Lib.hid (bstI_yes (x := x) (room := (chTo x j).room) (out := (chTo x j).out) (k := k) ⟨by rw [HF0.out]; exact hroom, hin, .inr (by rw [hbn]; exact hbase)⟩)
          have hd3 : decide ((it x.els k).base > (it x.els bn).base) = true := decide_eq_true hbase
          clear hin hneg hbn hble
          go_quiet (first | (go_at_call 50; refine Calls.quiet_of_same (l1Has_no A1 c1 (chTo x j).out k _ (HL6.out.drewN _) hl2 HIN.out)))
          go_wp2
          go_roundw
          case rel => exact ⟨k + 1, by omega, by go_num, by rw [HY.out], Lib.hid (HB6.out _)⟩
          case measure => simp [intOf]; omega
        · have HN := Lib.hid (bstI_no (x := x) (room := (chTo x j).room) (out := (chTo x j).out) (k := k) (fun h => by
            rcases h.2.2 with h | h
            · omega
            · rw [hbn] at h
              exact hbase h))
          have hd3 : decide ((it x.els k).base > (it x.els bn).base) = false := decide_eq_false hbase
          clear hin hneg hbn hble
          go_quiet (first | (go_at_call 50; refine Calls.quiet_of_same (l1Has_no A1 c1 (chTo x j).out k _ (HL6.out.drewN _) hl2 HIN.out)))
          go_wp2
          go_roundw
          case rel => exact ⟨k + 1, by omega, by go_num, by rw [HN.out, HBN.out], Lib.hid (HB6.out _)⟩
          case measure => simp [intOf]; omega
      · obtain rfl : k = x.els.length := by omega
        have HBX := Lib.hid (HBR.out.trans (HBV.out.mono HBR.out.size))
        by_cases hneg : bstI x (chTo x j).room (chTo x j).out x.els.length < 0
        · have HJ := Lib.hid (show chTo x n = chTo x j from by
            have h := chTo_more x j hneg (n - j)
            rwa [show j + (n - j) = n by omega] at h)
          have HLN := Lib.hid (HL1.out.next HBV.out)
          go_wp2
          go_ret
          rw [HJ.out]
          exact ⟨⟨_, _, rfl, HLN.out⟩, Below_next HB.out.below HBX.out⟩
        obtain ⟨bn, hbn⟩ : ∃ bn : Nat, bstI x (chTo x j).room (chTo x j).out x.els.length = (bn : Int) := ⟨(bstI x (chTo x j).room (chTo x j).out x.els.length).toNat, by omega⟩
        have HST := Lib.hid (show chTo x (j + 1) = _ from chStep_yes hneg)
        rw [hbn] at HST
        have hbn' : bn < x.els.length := by omega
        obtain ⟨f0, hf0⟩ : ∃ f0 : Nat, (it x.els bn).fam = (f0 : Int) := ⟨(it x.els bn).fam.toNat, by have := (HK.out.els.el bn hbn').fam; omega⟩
        have hfam := (HK.out.els.el bn hbn').fam
        have HF0 := Lib.hid (show (it x.els ((bn : Int)).toNat).fam.toNat = f0 by rw [show ((bn : Int)).toNat = bn from rfl]; omega)
        rw [HF0.out] at HST
        have hcn := chTo_cnts x (cdOk_fams HK.out) j
        have hv1 := hcn.nn f0 (by omega)
        have hv2 := hcn.room f0 (by omega)
        have hv3 := (HK.out.lims.lim f0 (by rw [HLL.out]; omega)).2
        have HV2 := Lib.hid hv2
        have hv4 : it (chTo x j).room f0 ≤ 9 := by omega
        have hfl : (f0 : Int) < (x.lims.length : Int) := by rw [HLL.out]; omega
        have hf5 : f0 < (chTo x j).room.length := by rw [HRL.out, HLL.out]; omega
        have HOV := Lib.hid (own_next HO.out HBV.out)
        have HRV := Lib.hid (HRM.out.block (HBV.out.block gr (by omega)))
        have hws := HBV.out.size
        have HRA := Lib.hid (HRV.out.block ((below_alloc wr (.cells #[.int .i64 (bn : Int)] 3)).block gr (by omega)))
        rw [hbn]
        clear hv2 hcn hneg hble hbn
        go_wp2_with (at_builtin; refine wpList_append_src _ rfl (.tmp 56) (.tmp 58) 23 rfl w1.heap.size 3 i0 (.int .i64 0) 8 Tryd.underlying23 HZ.out.1 HZ.out.2.1 HZ.out.2.2.1 HZ.out.2.2.2 rfl _ (chTo x j).out.length ((chTo x j).out.map (Value.int .i64)) rfl (HOV.out.alloc _) (some ⟨wr.heap.size, 0, none⟩) 1 1 [.int .i64 (bn : Int)] rfl rfl (fun _ => ⟨_, rfl, one_news (by simp)⟩) (by intro u hu; simp at hu; subst hu; rfl) (by unfold maxLen; omega) (by omega) (by simp; omega) ?_; intro v1 w2 hown1 hgrow1 hat1; obtain ⟨A2, c2, rfl, hown2⟩ := row_push hown1; have HOWN1 := Lib.hid hown2; clear hown2; have HS2 := Lib.hid (show w1.heap.size ≤ w2.heap.size from Nat.le_trans hsz (Nat.le_trans hws (Nat.le_trans (by simp) hgrow1.size))); have HB2 := Lib.hid (show Below W.heap.size W w2 from Below.grown (HBX.out.alloc HBX.out.size _) hgrow1 (by simp; have := HBX.out.size; omega) (fun kk e => by have := (HOV.out.lt kk e).1; omega)); have HR2 := Lib.hid (HRA.out.block (hgrow1.block gr (by simp; omega) (fun e => by have := (HOV.out.lt gr (by first | exact e | exact e.symm)).1; omega))); obtain ⟨r0, rf⟩ := HR2.out.int0 f0 hf5; obtain ⟨c0, c1', c2, c3⟩ := HEL.out w2 HB2.out bn hbn'; have hX0 := (HX.out.next HB2.out).box.c0; rw [hf0] at c1'; clear hown1 hgrow1 hat1)
        have HO3 := Lib.hid (own_heap (w' := w2.setCell ⟨gr, f0, none⟩ (.int .i64 (it (chTo x j).room f0 - 1))) HOWN1.out (fun k hk => Below.heap_setCell _ _ _ _ (fun e => by have := (HOWN1.out.lt k hk).1; simp at e; omega)))
        have HP := Lib.hid (HR2.out.putInt0 f0 (it (chTo x j).room f0 - 1) hf5)
        have HB3 := Lib.hid (HB2.out.setCell (p := ⟨gr, f0, none⟩) hg1 (.int .i64 (it (chTo x j).room f0 - 1)))
        have hs2 : w1.heap.size ≤ w2.heap.size := HS2.out
        go_roundw
        case rel => exact ⟨j + 1, by omega, by rw [HST.out]; exact HO3, by rw [HST.out, List.length_append, HLEN.out] <;> rfl, by rw [HST.out]; exact HP, by simpa [World.setCell] using hs2, HB3⟩
        case measure =>
          have hl := HLEN.out
          simp [vlen]
          omega
end Go.Proofs.YtocjkhfghldnnaaDoor
