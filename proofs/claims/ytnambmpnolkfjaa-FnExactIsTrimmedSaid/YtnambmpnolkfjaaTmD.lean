/- Which places of marks in rising order count: slices.Repeat of one flag, and clear of a part of one flag. -/
import Derived.Test.YtnambmpnolkfjaaTmP
import Derived.Test.YtnambmpnolkfjaaOneSorted
import Derived.Test.YtnambmpnolkfjaaShelf
import Derived.Laws.IdiomCopy
import Derived.Laws.CopyOwn
import Derived.Deep.RegionHeld3
import Derived.Deep.Cut
namespace Go.Proofs.Ytnambmpnolkfjaa.One
open Go.ChangeShapes Go.WideShapes Go.ChangeAt Go.RowKit Go.Lib Go.Proofs
set_option linter.unusedVariables false

/-- A row of flags of which the first n are set. -/
def rpB (r n : Nat) : List Value := List.replicate n (.bool true) ++ List.replicate (r - n) (.bool false)
theorem rpB_len (r : Nat) {n : Nat} (h : n ≤ r) : (rpB r n).length = r := by simp [rpB]; omega
theorem rpB_splice (r : Nat) {n m : Nat} (h : n + m ≤ r) : splice (rpB r n) n (List.replicate m (.bool true)) = rpB r (n + m) := by
  unfold splice rpB
  rw [List.take_append_of_le_length (by simp), List.take_of_length_le (by simp), List.length_replicate, List.drop_append, List.drop_of_length_le (by simp)]
  simp only [List.length_replicate, List.nil_append, List.drop_replicate, ← List.append_assoc, List.replicate_append_replicate]
  congr 2
  omega
theorem rpB_cell {w : World} {g r n : Nat} (h : w.heap[g]? = some (.cells (rpB r n).toArray 4 (0, 0))) (hn : n ≤ r) (i : Nat) (hi : i < n) : w.cell? ⟨g, i, none⟩ = some (.bool true) ∧ w.frozen? ⟨g, i, none⟩ = false := by
  have hlt : i < (rpB r n).length := by rw [rpB_len r hn]; omega
  refine ⟨?_, ?_⟩
  · simp only [World.cell?, h, Option.isSome_none, Bool.false_eq_true, if_false]
    simp [rpB, List.getElem?_append, hi]
  · simp [World.frozen?, h]
theorem rpB_src {w : World} {g r n m : Nat} (h : w.heap[g]? = some (.cells (rpB r n).toArray 4 (0, 0))) (hn : n ≤ r) (hm : m ≤ n) : ∀ j v, (List.replicate m (Value.bool true))[j]? = some v → w.cell? ((⟨g, 0, none⟩ : Addr).add j) = some v := fun j v hj => by
  have hj' : j < m := by
    have := (List.getElem?_eq_some_iff.1 hj).1
    simpa using this
  have e : v = .bool true := by
    rw [List.getElem?_replicate, if_pos hj'] at hj
    exact (Option.some.inj hj).symm
  have ha : (⟨g, 0, none⟩ : Addr).add j = ⟨g, j, none⟩ := by
    unfold Addr.add
    by_cases e : j = 0 <;> simp [e]
  rw [ha, e]
  exact (rpB_cell h hn j (by omega)).1
theorem Try.infoB : (Try.prog.info? 4).map (fun i => (i.zero, i.size, i.bytes)) = some (some (.bool false), 1, 1) := by kernel_rfl
theorem madeB (r : Nat) : (madeCells (Value.bool false).cells (r * 1)).toList = rpB r 0 := by
  show (madeCells #[Value.bool false] (r * 1)).toList = _
  rw [toList_madeCells_one]
  simp [rpB]
set_option maxHeartbeats 2000000 in
set_option maxRecDepth 100000 in
theorem repeatB_any (b o c r : Nat) (w : World) (hc : w.cell? ⟨b, o, none⟩ = some (.bool true)) (hb : b < w.heap.size) (hr1 : 1 ≤ r) (hr9 : r ≤ 9) :
    Calls Try.prog 104 #[.slice (some ⟨b, o, none⟩) 1 c, .int .i64 r] w fun e w' => e = .returned (.slice (some ⟨w.heap.size, 0, none⟩) r r) ∧ w'.heap[w.heap.size]? = some (.cells (rpB r r).toArray 4 (0, 0)) ∧ Below w.heap.size w w' := by
  obtain ⟨i0, hi, hz0, hz1, hz2⟩ := info_parts Try.infoB
  have HC := Lib.hid hc
  have hsz : (Try.prog.info? 4).map (·.size) = some 1 := by rw [hi]; simp [hz1]
  have HSZ := Lib.hid hsz
  clear hsz hc
  have HZ := Lib.hid (madeB r)
  go_enter Try.func104, Try.ntmps104
  go_wp2_with fail
  refine (Try.bits_Mul 1 r (by omega) (by omega) w).mono ?_
  rintro e w' ⟨rfl, hw⟩
  obtain rfl := hw.symm
  clear hw
  rw [show 1 * r / 18446744073709551616 = 0 by omega, show 1 * r % 18446744073709551616 = r by omega]
  go_upto_region 7 with (at_make; refine wpList_make_full _ rfl (.tmp 29) (.tmp 29) 79 rfl w.heap.size 4 i0 (.bool false) 1 Try.underlying79 hi hz0 hz1 .i64 .i64 _ _ r rfl rfl rfl rfl (by rw [hz2]; omega) (by unfold maxLen; omega) (Nat.le_refl _) ?_; intro w1 hown hgrow; have HOWN := Lib.hid hown; have HB1 := Lib.hid (show Below w.heap.size w w1 from (Below.refl _ _).grown hgrow (Nat.le_refl _) (fun k e => by cases e)); clear hown hgrow)
  have HR0 := Lib.hid (show w1.heap[w.heap.size]? = some (.cells (rpB r 0).toArray 4 (0, 0)) from by
    rcases HOWN.out.2 with ⟨hv, _⟩ | ⟨g', cap, cur, hv, _, hhp, _, _, h5, h6⟩
    · cases hv
    · injection hv with e1 e2 e3
      injection e1 with e1
      injection e1 with e1 _
      subst e1
      subst e3
      rw [hhp]
      have h7 : cur.toList = rpB r 0 := by
        have h8 := h6
        rw [List.take_of_length_le (by simp; omega)] at h8
        rw [h8]
        exact HZ.out
      rw [← h7])
  have hsw : w.heap.size < w1.heap.size := (HOWN.out.lt _ rfl).2
  clear HOWN
  have hsrc : w1.cell? ⟨b, o, none⟩ = some (.bool true) := (HB1.out.cell (p := ⟨b, o, none⟩) hb).trans HC.out
  go_wp2_with ((with_reducible show wpList _ _ _ _ _ _); go_loud (refine wpList_copy_splice rfl (.tmp 31) (.tmp 32) 79 79 rfl 4 Try.underlying79 HSZ.out (some ⟨w.heap.size, 0, none⟩) (some ⟨b, o, none⟩) r r 1 c rfl rfl w.heap.size 0 (rpB r 0) 4 HR0.out [.bool true] (Nat.min_eq_left hr1).symm (fun _ => ⟨rfl, _, rfl, one_news hsrc⟩) (by rw [rpB_len r (Nat.zero_le _)]; simp; omega) (by intro u hu; simp at hu; subst hu; rfl) w.heap.size w HB1.out (Nat.le_refl _) ?_; intro w2 hw2 hb2; have HW2 := Lib.hid (show w2.heap[w.heap.size]? = some (.cells (rpB r 1).toArray 4 (0, 0)) from by have h := hw2.out; rw [show [Value.bool true] = List.replicate 1 (.bool true) from rfl, rpB_splice r (n := 0) (m := 1) (by omega)] at h; exact h); have HB2 := Lib.hid hb2; clear hw2 hb2))
  clear hsrc HR0 HB1 hsw
  go_loopw [8] (fun v8 wr => ∃ n : Nat, 1 ≤ n ∧ n ≤ r ∧ v8 = .int .i64 n ∧ Hid (wr.heap[w.heap.size]? = some (.cells (rpB r n).toArray 4 (0, 0))) ∧ Hid (Below w.heap.size w wr)) (fun v8 _ => r - (RowKit.intOf v8).toNat)
  case atStart => exact ⟨1, Nat.le_refl _, by omega, by simp, HW2, HB2⟩
  case round =>
    clear HW2 HB2
    obtain ⟨n, hn1, hn2, rfl, HW2, HB2⟩ := hrel
    rcases Nat.lt_or_ge n r with hlt | hge
    · obtain ⟨m, hm⟩ : ∃ m, m = Nat.min n (r - n) := ⟨_, rfl⟩
      have hm0 : 1 ≤ m := by rw [hm]; show 1 ≤ min n (r - n); omega
      have hm1 : n + m ≤ r := by rw [hm]; show n + min n (r - n) ≤ r; omega
      have hm2 : m ≤ n := by rw [hm]; exact Nat.min_le_left _ _
      have HMIN := Lib.hid hm
      have HWD := Lib.hid (show wr.drew.heap[w.heap.size]? = some (.cells (rpB r n).toArray 4 (0, 0)) from HW2.out)
      have HBD := Lib.hid (show Below w.heap.size w wr.drew from HB2.out.drew)
      clear hm
      go_wp2_with fail
      have HNE := Lib.hid (show ¬ r = n by omega)
      go_region_held3 (fun _ => True) (trivial) (first | (refine step_copy_splice (by rfl) (.tmp 41) (.tmp 44) 79 79 (by rfl) 4 Try.underlying79 HSZ.out (if r = n then some ⟨w.heap.size, 0, none⟩ else some ⟨w.heap.size, n, none⟩) (some ⟨w.heap.size, 0, none⟩) (r - n) (r - n) n r (by rfl) (by rfl) w.heap.size n (rpB r n) 4 HWD.out (List.replicate m (.bool true)) (by rw [List.length_replicate]; exact HMIN.out) (fun _ => ⟨if_neg HNE.out, _, rfl, rpB_src HWD.out hn2 hm2⟩) (by rw [rpB_len r hn2, List.length_replicate]; exact hm1) (by intro u hu; rw [List.eq_of_mem_replicate hu]; rfl) w.heap.size w HBD.out (Nat.le_refl _) ?_; intro w2 hw2 hb2; have HW3 := Lib.hid (show w2.heap[w.heap.size]? = some (.cells (rpB r (n + m)).toArray 4 (0, 0)) from by have h := hw2.out; rw [rpB_splice r hm1] at h; exact h); have HB3 := Lib.hid hb2; clear hw2 hb2) | fail)
      rw [List.length_replicate]
      rw [show IntKind.i64.wrap ((n : Int) + (m : Int)) = ((n + m : Nat) : Int) from (IntWalk.i64_in _ (by omega)).trans (by omega)]
      go_wp2
      go_roundw
      case rel => exact ⟨n + m, by omega, by omega, by go_num, HW3, HB3⟩
      case measure => simp [RowKit.intOf]; omega
    · obtain rfl : n = r := by omega
      go_wp2
      go_ret
      exact ⟨rfl, HW2.out, HB2.out⟩
theorem zc_bool : (Builtin.zeroCells #[.bool false] 1).toList = [Value.bool false] := by
  apply List.ext_getElem
  · simp [Builtin.zeroCells]
  · intro i h1 h2
    simp [Builtin.zeroCells, Nat.mod_one]
theorem wpList_clear_one {P : Program} {w : World} {ops : Array Oper} {rest : List Oper} {o : Oper} {a : Act} {Q : Exit → Act → World → Prop} (hgd : o.guard = none) (s : Operand) (sT : TypeId)
    (ho : o.op = .call { callee := .builtin .clear, args := #[s], argTypes := #[sT] }) (elem : TypeId) (hu : P.underlying sT = some (.slice elem)) (hz : ∀ w, (zeroValue elem).run P w = .ok (.bool false) w)
    (b o2 m d : Nat) (hm : m = 1) (hs : a.eval s = .slice (some ⟨b, o2, none⟩) m d) (x : Value) (hc : w.cell? ⟨b, o2, none⟩ = some x) (hf : w.frozen? ⟨b, o2, none⟩ = false)
    (h : wpList P ops Q rest (a.put o.dst (.tuple #[])) (w.setCell ⟨b, o2, none⟩ (.bool false))) : wpList P ops Q (o :: rest) a w := by
  subst hm
  refine wpList_plain hgd fun K hK => ?_
  have hst := run_storeCells_cells (P := P) b o2 [.bool false] 0 w (fun j hj => by
    simp at hj
    subst hj
    simp [hc]) (fun j hj => by
    simp at hj
    subst hj
    simpa using hf) (fun v hv => by
    simp at hv
    subst hv
    rfl)
  have hrun : (Builtin.clear_ #[sT] o.type #[.slice (some ⟨b, o2, none⟩) 1 d]).run P w = .ok (.tuple #[]) (w.setCells b o2 [.bool false]) := by
    simp only [Nat.add_zero] at hst
    simp [Builtin.clear_, run_underlying hu, hz, Value.cells, zc_bool, hst, Result.andThen]
  unfold Oper.wp
  simp [execOp, ho, resolve, invoke, builtin, hs, hrun, Result.andThen]
  exact hK _ _ h
set_option maxHeartbeats 1000000 in
set_option maxRecDepth 100000 in
/-- The flags of the places that count. -/
theorem countedPlaces_any (n : Nat) (w : World) (h1 : 1 ≤ n) (h9 : n ≤ 9) :
    Calls Try.prog 90 #[.int .i64 n] w fun e w' => ∃ g, e = .returned (.slice (some ⟨g, 0, none⟩) n n) ∧ (∀ i, i < n → w'.cell? ⟨g, i, none⟩ = some (.bool (cnts n i))) ∧ w.heap.size ≤ g ∧ g < w'.heap.size ∧ Below w.heap.size w w' := by
  go_enter Try.func90, Try.ntmps90
  go_wp2_with fail
  have hb0 := (Below.refl w.heap.size w).alloc (Nat.le_refl _) (.cells #[.bool true] 4)
  have hs0 : (w.alloc (.cells #[.bool true] 4)).heap.size = w.heap.size + 1 := by simp
  have hc0 : (w.alloc (.cells #[.bool true] 4)).cell? ⟨w.heap.size, 0, none⟩ = some (.bool true) := by simp
  have hs1 : w.heap.size < (w.alloc (.cells #[.bool true] 4)).heap.size := by rw [hs0]; omega
  clear hs0
  generalize World.alloc w _ = W at hb0 hs1 hc0 ⊢
  refine (repeatB_any w.heap.size 0 1 n W hc0 hs1 h1 h9).mono ?_
  rintro e w2 ⟨rfl, hw2, hb2⟩
  have HB2 := Lib.hid (hb0.trans (hb2.mono hb0.size))
  have HC2 := Lib.hid (fun i hi => rpB_cell hw2 (Nat.le_refl _) i hi)
  have hlt : W.heap.size < w2.heap.size := (Array.getElem?_eq_some_iff.1 hw2).1
  have hle : w.heap.size ≤ W.heap.size := hb0.size
  have hzv : ∀ w, (zeroValue 4).run Try.prog w = .ok (.bool false) w := fun w => by kernel_rfl
  have HZV := Lib.hid hzv
  clear hb0 hb2 hw2 hc0 hzv
  by_cases h5 : n < 5
  · go_wp2
    go_ret
    exact ⟨W.heap.size, rfl, fun i hi => by rw [cnts_few h5]; exact (HC2.out i hi).1, hle, hlt, HB2.out⟩
  · have d1 := HC2.out 0 (by omega)
    have HCa := Lib.hid d1.1
    have HFa := Lib.hid d1.2
    have d2 := HC2.out (n - 1) (by omega)
    have HCb := Lib.hid d2.1
    have HFb := Lib.hid d2.2
    have hne : ¬ n = n - 1 := by omega
    have q1 : (1 : Int) ≤ (n : Int) := by omega
    have q2 : (0 : Int) ≤ (n : Int) - 1 := by omega
    have q3 : (n : Int) - 1 ≤ (n : Int) := by omega
    have e1 : ((n : Int) - 1).toNat = n - 1 := by omega
    have e2 : n - (n - 1) = 1 := by omega
    clear d1 d2
    have hn0 : (⟨W.heap.size, 0, none⟩ : Addr) ≠ ⟨W.heap.size, n - 1, none⟩ := fun e => by
      have : (0 : Nat) = n - 1 := congrArg (·.off) e
      omega
    have HN0 := Lib.hid hn0
    clear hn0
    go_upto_region 4 with (refine wpList_clear_one rfl (.tmp 10) 79 rfl 4 Try.underlying79 HZV.out W.heap.size 0 1 n rfl rfl _ HCa.out HFa.out ?_)
    have HCc := Lib.hid (show (w2.setCell ⟨W.heap.size, 0, none⟩ (.bool false)).cell? ⟨W.heap.size, n - 1, none⟩ = some (.bool true) from (World.cell?_setCell_other _ _ _ _ HN0.out).trans HCb.out)
    have HFc := Lib.hid (show (w2.setCell ⟨W.heap.size, 0, none⟩ (.bool false)).frozen? ⟨W.heap.size, n - 1, none⟩ = false by rw [World.frozen?_setCell]; exact HFb.out)
    have HCi := Lib.hid (show ∀ i, i < n → (w2.setCell ⟨W.heap.size, 0, none⟩ (.bool false)).cell? ⟨W.heap.size, i, none⟩ = some (.bool (decide (i ≠ 0))) from fun i hi => by
      by_cases i0 : i = 0
      · rw [i0]
        exact World.cell?_setCell_same _ _ _ (HC2.out 0 (by omega)).1
      · rw [decide_eq_true i0]
        exact (World.cell?_setCell_other _ _ _ _ (fun e => i0 (congrArg (·.off) e).symm)).trans (HC2.out i hi).1)
    have HB3 := Lib.hid (HB2.out.setCell (p := ⟨W.heap.size, 0, none⟩) hle (.bool false))
    have hl3 : W.heap.size < (w2.setCell ⟨W.heap.size, 0, none⟩ (.bool false)).heap.size := by simpa [World.setCell] using hlt
    generalize World.setCell w2 _ _ = W3 at HCc HFc HCi HB3 hl3 ⊢
    clear HCa HFa HCb HFb HC2 HB2
    go_wp2_with (refine wpList_clear_one rfl (.tmp 14) 79 rfl 4 Try.underlying79 HZV.out W.heap.size (n - 1) 1 1 rfl rfl _ HCc.out HFc.out ?_)
    go_ret
    refine ⟨W.heap.size, rfl, fun i hi => ?_, hle, by simpa [World.setCell] using hl3, HB3.out.setCell (p := ⟨W.heap.size, n - 1, none⟩) hle _⟩
    by_cases ie : i = n - 1
    · rw [ie, cnts_e (by omega)]
      exact World.cell?_setCell_same _ _ _ HCc.out
    · refine (World.cell?_setCell_other _ _ _ _ (fun e => ie (congrArg (·.off) e).symm)).trans ((HCi.out i hi).trans ?_)
      by_cases i0 : i = 0
      · rw [i0, cnts_0 (by omega)]
        rfl
      · rw [cnts_in (by omega) (by omega), decide_eq_true i0]
end Go.Proofs.Ytnambmpnolkfjaa.One
