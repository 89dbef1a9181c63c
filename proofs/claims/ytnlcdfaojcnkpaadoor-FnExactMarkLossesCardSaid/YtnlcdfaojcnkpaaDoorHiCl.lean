/- CleanItems of the program: a copy of the list, its marks cleared one by one. -/
import Derived.Test.YtnlcdfaojcnkpaaDoorBi
import Derived.Test.YtnlcdfaojcnkpaaDoorBe
import Derived.Test.YtnlcdfaojcnkpaaDoorBd
import Derived.Deep.Cut
import Derived.Laws.IdiomCopy
import Derived.Laws.CopyOwn
namespace Go.Proofs.YtnlcdfaojcnkpaaDoor
open Go.ChangeShapes Go.WideShapes Go.ChangeAt Go.RowKit Go.PlainAid
set_option linter.unusedVariables false

theorem own_z1 {W : World} {b o : Nat} {xs : List Int} (h : OwnAt W b o xs) (hl : xs.length = 1) : OwnAt (W.setCell ⟨b, o, none⟩ (.int .i64 0)) b o (zer 1) := by
  match xs, hl with
  | [x], _ => exact h.putInt 0 0 (by simp)
theorem own_z2 {W : World} {b o : Nat} {xs : List Int} (h : OwnAt W b o xs) (hl : xs.length = 2) : OwnAt ((W.setCell ⟨b, o, none⟩ (.int .i64 0)).setCell ⟨b, o + 1, none⟩ (.int .i64 0)) b o (zer 2) := by
  match xs, hl with
  | [x, y], _ => exact (h.putInt 0 0 (by simp)).putInt 1 0 (by simp)
theorem own_z3 {W : World} {b o : Nat} {xs : List Int} (h : OwnAt W b o xs) (hl : xs.length = 3) : OwnAt (((W.setCell ⟨b, o, none⟩ (.int .i64 0)).setCell ⟨b, o + 1, none⟩ (.int .i64 0)).setCell ⟨b, o + 2, none⟩ (.int .i64 0)) b o (zer 3) := by
  match xs, hl with
  | [x, y, z], _ => exact ((h.putInt 0 0 (by simp)).putInt 1 0 (by simp)).putInt 2 0 (by simp)
def clrIm (y : Im) : Im := ⟨y.A, y.c, y.L, y.d, y.ns, zer y.ms.length, y.late⟩
theorem zc_int (n : Nat) : (Builtin.zeroCells #[.int .i64 0] n).toList = List.replicate n (Value.int .i64 0) := by
  apply List.ext_getElem
  · simp [Builtin.zeroCells]
  · intro i h1 h2
    simp [Builtin.zeroCells, Nat.mod_one]
theorem wpList_clear_ints {P : Program} {w : World} {ops : Array Oper} {rest : List Oper} {o : Oper} {a : Act} {Q : Exit → Act → World → Prop} (hgd : o.guard = none) (s : Operand) (sT : TypeId)
    (ho : o.op = .call { callee := .builtin .clear, args := #[s], argTypes := #[sT] }) (elem : TypeId) (hu : P.underlying sT = some (.slice elem)) (hz : ∀ w, (zeroValue elem).run P w = .ok (.int .i64 0) w)
    (b o2 n d : Nat) (hs : a.eval s = .slice (some ⟨b, o2, none⟩) n d) (xs : List Int) (hx : xs.length = n) (hp : 1 ≤ n) (h3 : n ≤ 3) (hO : OwnAt w b o2 xs)
    (h : ∀ w', Only (fun i => i = b) w w' → OwnAt w' b o2 (zer n) → wpList P ops Q rest (a.put o.dst (.tuple #[])) w') : wpList P ops Q (o :: rest) a w := by
  refine wpList_plain hgd fun K hK => ?_
  have hst := run_storeCells_cells (P := P) b o2 (List.replicate n (Value.int .i64 0)) 0 w (fun j hj => by
    rw [List.length_replicate] at hj
    have := (hO.int j (by omega)).c0
    simp [this]) (fun j hj => by
    rw [List.length_replicate] at hj
    exact (hO.int j (by omega)).f0) (fun v hv => by
    obtain rfl := List.eq_of_mem_replicate hv
    rfl)
  have hrun : (Builtin.clear_ #[sT] o.type #[.slice (some ⟨b, o2, none⟩) n d]).run P w = .ok (.tuple #[]) (w.setCells b o2 (List.replicate n (.int .i64 0))) := by
    obtain ⟨m, rfl⟩ : ∃ m, n = m + 1 := ⟨n - 1, by omega⟩
    simp only [Nat.add_zero] at hst
    simp [Builtin.clear_, run_underlying hu, hz, Value.cells, zc_int, hst, Result.andThen]
  unfold Oper.wp
  simp [execOp, ho, resolve, invoke, builtin, hs, hrun, Result.andThen]
  refine hK _ _ (h _ ?_ ?_)
  · rcases (show n = 1 ∨ n = 2 ∨ n = 3 by omega) with rfl | rfl | rfl
    · exact Only.put (S := fun i => i = b) (Only.refl _ w) b _ rfl _
    · exact Only.put (S := fun i => i = b) (Only.put (S := fun i => i = b) (Only.refl _ w) b _ rfl _) b _ rfl _
    · exact Only.put (S := fun i => i = b) (Only.put (S := fun i => i = b) (Only.put (S := fun i => i = b) (Only.refl _ w) b _ rfl _) b _ rfl _) b _ rfl _
  · rcases (show n = 1 ∨ n = 2 ∨ n = 3 by omega) with rfl | rfl | rfl
    · exact own_z1 hO hx
    · exact own_z2 hO hx
    · exact own_z3 hO hx
theorem OwnAt.alikes {α : Type} [Flat α] {w : World} {g o : Nat} {xs ys : List α} (h : OwnAt w g o xs) (hl : ys.length = xs.length) (he : ∀ i, i < xs.length → Flat.cells (it ys i) = Flat.cells (it xs i)) : OwnAt w g o ys :=
  ⟨fun i hi => by rw [he i (by omega)]; exact h.cell i (by omega), fun i j hi hj => h.free i j (by omega) hj⟩
theorem clrIm_cells (y : Im) : Flat.cells (clrIm y) = Flat.cells y := by
  show Im.cs _ = Im.cs _
  simp [Im.cs, clrIm, zer_len]
theorem ImsOwn.clrMs {S : Nat → Prop} {w W : World} {P : Option Addr} {g : Nat} {G : Nat → Nat} {ys : List Im} (h : ImsOwn S w P g G ys) (k : Nat) (hk : k < ys.length) (b o : Nat) (hL : (it ys k).L = some ⟨b, o, none⟩) (hp : 0 < (it ys k).ms.length)
    (ho : Only (fun i => i = b) w W) (hO : OwnAt W b o (zer (it ys k).ms.length)) : ImsOwn S W P g G (ys.set k (clrIm (it ys k))) := by
  obtain ⟨b', o', e1, e2, hlt, _⟩ := h.ms k hk hp
  rw [hL] at e1
  injection e1 with e1
  injection e1 with e3 e4
  subst e3 e4
  have hG : ∀ a, a ≠ 2 * k + 1 → a < 2 * ys.length → G a ≠ G (2 * k + 1) := fun a hne ha => by
    rcases Nat.lt_or_gt_of_ne hne with q | q
    · exact h.inj a _ q (by omega)
    · exact fun e => h.inj _ a q ha e.symm
  have hout := h.out.keep ho (fun i q1 q2 => h.ne (2 * k + 1) (by omega) ((q2.trans e2).symm.trans q1))
  refine ⟨fun hp => ?_, fun i hi => ?_, fun i hi => ?_, fun i hi => h.ne i (by simpa using hi), fun i m him hm => h.inj i m him (by simpa using hm), fun _ => h.sg (by omega), fun i hi => h.sG i (by simpa using hi)⟩
  · obtain ⟨g1, o1, q1, q2, q3, q4⟩ := hout (by omega)
    refine ⟨g1, o1, q1, q2, q3, q4.alikes (by rw [List.length_set]) (fun i hi => ?_)⟩
    rw [it_set _ _ _ _ hk]
    by_cases e : i = k
    · rw [if_pos e, e, clrIm_cells]
    · rw [if_neg e]
  · rw [List.length_set] at hi
    rw [it_set _ _ _ _ hk]
    have := (h.ns i hi).keep ho (fun a q1 q2 => hG (2 * i) (by omega) (by omega) (q1.symm.trans (q2.trans e2)))
    by_cases e : i = k
    · subst e
      rw [if_pos rfl]
      exact this
    · rw [if_neg e]
      exact this
  · rw [List.length_set] at hi
    rw [it_set _ _ _ _ hk]
    by_cases e : i = k
    · subst e
      rw [if_pos rfl]
      exact fun _ => ⟨b, o, hL, e2, Nat.lt_of_lt_of_le hlt ho.size, hO⟩
    · rw [if_neg e]
      exact (h.ms i hi).keep ho (fun a q1 q2 => hG (2 * i + 1) (by omega) (by omega) (q1.symm.trans (q2.trans e2)))
/-- The marks of the first k items are cleared. -/
structure ClrTo (xs zs : List Im) (k : Nat) : Prop where
  len : zs.length = xs.length
  ns : ∀ i, i < xs.length → (it zs i).ns = (it xs i).ns
  late : ∀ i, i < xs.length → (it zs i).late = (it xs i).late
  ml : ∀ i, i < xs.length → (it zs i).ms.length = (it xs i).ns.length
  ms : ∀ i, i < k → i < xs.length → (it zs i).ms = zer (it xs i).ns.length
theorem ClrTo.zero {xs zs : List Im} (h : SameS xs zs) (hok : ListOk xs) : ClrTo xs zs 0 := ⟨h.len, fun i hi => (h.each i hi).ns, fun i hi => (h.each i hi).late, fun i hi => by rw [(h.each i hi).ms]; exact (hok.each i hi).eq, fun i hi => absurd hi (by omega)⟩
theorem ClrTo.step {xs zs : List Im} {k : Nat} (h : ClrTo xs zs k) (hk : k < xs.length) : ClrTo xs (zs.set k (clrIm (it zs k))) (k + 1) := by
  have hl := h.len
  have hs : ∀ i, it (zs.set k (clrIm (it zs k))) i = if i = k then clrIm (it zs k) else it zs i := fun i => it_set _ _ _ _ (by omega)
  refine ⟨by rw [List.length_set]; exact hl, fun i hi => ?_, fun i hi => ?_, fun i hi => ?_, fun i hi hx => ?_⟩
  · rw [hs]
    by_cases e : i = k
    · subst e
      rw [if_pos rfl]
      exact h.ns i hi
    · rw [if_neg e]
      exact h.ns i hi
  · rw [hs]
    by_cases e : i = k
    · subst e
      rw [if_pos rfl]
      exact h.late i hi
    · rw [if_neg e]
      exact h.late i hi
  · rw [hs]
    by_cases e : i = k
    · subst e
      rw [if_pos rfl]
      exact (zer_len _).trans (h.ml i hi)
    · rw [if_neg e]
      exact h.ml i hi
  · rw [hs]
    by_cases e : i = k
    · subst e
      rw [if_pos rfl]
      exact congrArg zer (h.ml i hx)
    · rw [if_neg e]
      exact h.ms i (by omega) hx
theorem ClrTo.done {xs zs : List Im} (h : ClrTo xs zs xs.length) : SameS (xs.map clnIm) zs := by
  refine ⟨by rw [List.length_map]; exact h.len, fun i hi => ?_⟩
  rw [List.length_map] at hi
  rw [cln_it xs i hi]
  exact ⟨h.ns i hi, h.ms i hi hi, h.late i hi⟩
set_option maxRecDepth 20000 in
set_option maxHeartbeats 2000000 in
theorem iCleanItems_any (P : Option Addr) (c : Nat) (xs : List Im) (w : World) (hr : Ims w w.heap.size P xs) (hl : ImsFits xs) :
    Calls Tryd.prog 51 #[.slice P xs.length c] w fun e w' => (∃ R d ys g G, e = .returned (.tuple #[.slice R ys.length d, .bool (pB (ListOk xs))]) ∧ SameS (clnF xs) ys ∧ ImsOwn (fun i => w.heap.size ≤ i ∧ i < w'.heap.size) w' R g G ys) ∧ Below w.heap.size w w' := by
  have HA := Lib.hid (iAreItems_any P c xs w hr hl)
  have HR := Lib.hid hr
  clear hr hl
  by_cases hok : ListOk xs
  · rw [pB_yes hok] at HA ⊢
    obtain ⟨i1, hi1, hy0, hy1, hy2⟩ := info_parts Tryd.infoInt
    have HK := Lib.hid hok
    have h14 := hok.len
    have HV := Lib.hid (clnF_yes hok)
    clear hok
    go_enter Tryd.func51, Tryd.ntmps51
    go_wp2_with fail
    refine HA.out.mono ?_
    rintro e w1 ⟨rfl, hb1⟩
    have HB1 := Lib.hid hb1
    have hs1 := hb1.size
    clear hb1 HA
    go_wp2_with fail
    refine (copyOfItems_any P c xs w1 (HR.out.next HB1.out) HK.out).mono ?_
    rintro e w2 ⟨⟨R, d, ys, g, G, rfl, hsm, ho⟩, hb2⟩
    have HL := Lib.hid hsm.len
    have HO := Lib.hid (ho.mono (T := fun i => w.heap.size ≤ i ∧ i < w2.heap.size) (fun i hi => ⟨Nat.le_trans hs1 hi.1, hi.2⟩))
    have HS := Lib.hid (ClrTo.zero hsm HK.out)
    have HB2 := Lib.hid (below_next HB1.out hb2)
    clear hsm ho hb2
    rw [HL.out]
    go_wp2_with fail
    go_loopw [14] (fun q wr => ∃ (k : Nat) (zs : List Im), k ≤ xs.length ∧ q = .int .i64 k ∧ Hid (ClrTo xs zs k) ∧ Hid (ImsOwn (fun i => w.heap.size ≤ i ∧ i < w2.heap.size) wr R g G zs) ∧ Hid (Below w.heap.size w wr) ∧ Hid (w2.heap.size ≤ wr.heap.size)) (fun q _ => xs.length - (intOf q).toNat)
    case atStart => exact ⟨0, ys, Nat.zero_le _, rfl, HS, HO, HB2, Lib.hid (Nat.le_refl _)⟩
    case round =>
      obtain ⟨k, zs, hk, rfl, HZ, HI, HB, HW⟩ := hrel
      by_cases hlt : k < xs.length
      · have hkz : k < zs.length := by have := HZ.out.len; omega
        obtain ⟨b, o, hP, hgb, hbl, hO⟩ := HI.out.out (by omega)
        subst hP
        have hml := HZ.out.ml k hlt
        have hn1 := (HK.out.each k hlt).lo
        have hn3 := (HK.out.each k hlt).hi
        obtain ⟨b2, o2, eL, e2, hl2, hO2⟩ := HI.out.ms k hkz (by omega)
        have q1 : (0 : Int) ≤ (k : Int) := by omega
        have q2 : (k : Int) < (xs.length : Int) := by omega
        obtain ⟨⟨c0, c1, c2⟩, f0, f1, f2⟩ := hO.im k hkz
        have HQ := Lib.hid (show w.heap.size ≤ b2 from by rw [e2]; exact (HI.out.sG (2 * k + 1) (by omega)).1)
        have HEL := Lib.hid eL
        have HOO := Lib.hid hO2
        have HM := Lib.hid (show 1 ≤ (it zs k).ms.length ∧ (it zs k).ms.length ≤ 3 by omega)
        rw [eL] at c1
        clear hgb hO hml hn1 hn3 eL e2 hO2
        go_upto_region 7 with fail
        clear c0 c1 c2 f0 f1 f2
        have hb3 := below_alloc wr (.cells #[.slice (it zs k).A (it zs k).ns.length (it zs k).c, .slice (some ⟨b2, o2, none⟩) (it zs k).ms.length (it zs k).d, .bool (it zs k).late] 76)
        have hx3 := (imBox_new wr 76 (⟨(it zs k).A, (it zs k).c, some ⟨b2, o2, none⟩, (it zs k).d, (it zs k).ns, (it zs k).ms, (it zs k).late⟩ : Im)).c1
        generalize World.alloc wr _ = W at hb3 hx3 ⊢
        have HB3 := Lib.hid hb3
        have HI3 := Lib.hid (HI.out.next hb3)
        have HO3 := Lib.hid (HOO.out.block (hb3.block _ hl2))
        have HBW := Lib.hid (below_next HB.out hb3)
        have HWW := Lib.hid (Nat.le_trans HW.out hb3.size)
        have hcz := hx3
        clear hb3 hx3
        have HST := Lib.hid (fun (W' : World) (ho : Only (fun i => i = b2) W W') (hz : OwnAt W' b2 o2 (zer (it zs k).ms.length)) => HI3.out.clrMs k hkz b2 o2 HEL.out (by have := HM.out; omega) ho hz)
        have HZ' := Lib.hid (HZ.out.step hlt)
        have hzv : ∀ w, (zeroValue 3).run Tryd.prog w = .ok (.int .i64 0) w := fun w => by kernel_rfl
        have HZV := Lib.hid hzv
        clear hzv
        go_wp2_with (refine wpList_clear_ints rfl (.tmp 19) 23 rfl 3 Tryd.underlying23 HZV.out b2 o2 (it zs k).ms.length (it zs k).d rfl (it zs k).ms rfl HM.out.1 HM.out.2 HO3.out ?_; intro w4 hon hoz; have HI4 := Lib.hid (HST.out w4 hon hoz); have HON := Lib.hid hon; clear hon hoz)
        go_roundw
        case rel => exact ⟨k + 1, _, by omega, by go_num, HZ', HI4, Lib.hid (HBW.out.trans (HON.out.below HBW.out.size (fun i hi => by have := HQ.out; omega))), Lib.hid (Nat.le_trans HWW.out HON.out.size)⟩
        case measure => simp [intOf]; omega
      · obtain rfl : k = xs.length := by omega
        have HZL := Lib.hid HZ.out.len
        go_wp2
        go_returns
        exact ⟨⟨R, d, zs, g, G, by rw [HZL.out]; rfl, by rw [HV.out]; exact HZ.out.done, HI.out.mono (fun i hi => ⟨hi.1, Nat.lt_of_lt_of_le hi.2 HW.out⟩)⟩, HB.out⟩
  · rw [pB_no hok] at HA ⊢
    have HV := Lib.hid (clnF_no hok)
    clear hok
    go_enter Tryd.func51, Tryd.ntmps51
    go_wp2_with fail
    refine HA.out.mono ?_
    rintro e w1 ⟨rfl, hb1⟩
    have HB1 := Lib.hid hb1
    clear hb1 HA
    go_wp2
    go_returns
    exact ⟨⟨none, 0, [], 0, fun _ => 0, rfl, by rw [HV.out]; exact SameS.refl _, Owned.nil _ _ _, fun i hi => absurd hi (by simp), fun i hi => absurd hi (by simp), fun i hi => absurd hi (by simp), fun i j _ hi => absurd hi (by simp), fun hi => absurd hi (by simp), fun i hi => absurd hi (by simp)⟩, HB1.out⟩
end Go.Proofs.YtnlcdfaojcnkpaaDoor
