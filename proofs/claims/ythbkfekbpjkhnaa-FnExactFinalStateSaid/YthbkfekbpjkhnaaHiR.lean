/- StateAt and FinalState, both sides. -/
import Derived.Test.YthbkfekbpjkhnaaHiN
import Derived.Test.YthbkfekbpjkhnaaHiS
import Derived.Deep.RegionHeld3
namespace Go.Proofs.Ythbkfekbpjkhnaa
open Go.ChangeShapes Go.WideShapes Go.ChangeAt Go.RowKit Go.Lib Go.Proofs Go.PlainAid
set_option linter.unusedVariables false

theorem it_map_range {α : Type} [Inhabited α] (f : Nat → α) (n i : Nat) (h : i < n) : it ((List.range n).map f) i = f i := by
  unfold it
  rw [List.getD_eq_getElem?_getD, List.getElem?_map, List.getElem?_range h]
  rfl
def stMs (xs : List Im) (hs : List Cg) (k i : Nat) : List Int := (List.range (it xs i).ns.length).map fun n => mkS xs hs (i : Int) ((n : Nat) : Int) k
def stIm (xs : List Im) (hs : List Cg) (k i : Nat) : Im := ⟨none, 0, none, 0, (it xs i).ns, stMs xs hs k i, (it xs i).late⟩
/-- The list after the first k changes. -/
def stLs (xs : List Im) (hs : List Cg) (k : Nat) : List Im := (List.range xs.length).map (stIm xs hs k)
theorem stMs_len (xs : List Im) (hs : List Cg) (k i : Nat) : (stMs xs hs k i).length = (it xs i).ns.length := by simp [stMs]
theorem stMs_it (xs : List Im) (hs : List Cg) (k i n : Nat) (h : n < (it xs i).ns.length) : it (stMs xs hs k i) n = mkS xs hs (i : Int) (n : Int) k := by
  unfold stMs
  exact it_map_range _ _ _ h
theorem stLs_len (xs : List Im) (hs : List Cg) (k : Nat) : (stLs xs hs k).length = xs.length := by simp [stLs]
theorem stLs_it (xs : List Im) (hs : List Cg) (k i : Nat) (h : i < xs.length) : it (stLs xs hs k) i = stIm xs hs k i := by
  unfold stLs
  exact it_map_range _ _ _ h
structure MsIs (xs : List Im) (hs : List Cg) (k : Nat) (ys : List Im) : Prop where
  len : ys.length = xs.length
  ns : ∀ i, i < xs.length → (it ys i).ns = (it xs i).ns
  late : ∀ i, i < xs.length → (it ys i).late = (it xs i).late
  ml : ∀ i, i < xs.length → (it ys i).ms.length = (it xs i).ns.length
  ms : ∀ i n, i < xs.length → n < (it xs i).ns.length → it (it ys i).ms n = mkS xs hs i n k
theorem StIs.msIs {xs : List Im} {hs : List Cg} {k : Nat} {ys : List Im} {os : List (Rw Bool)} (h : StIs xs hs k ys os) : MsIs xs hs k ys := ⟨h.len, h.ns, h.late, h.ml, h.ms⟩
theorem MsIs.sameS {xs : List Im} {hs : List Cg} {k : Nat} {ys : List Im} (h : MsIs xs hs k ys) : SameS (stLs xs hs k) ys := by
  refine ⟨by rw [stLs_len]; exact h.len, fun i hi => ?_⟩
  rw [stLs_len] at hi
  rw [stLs_it xs hs k i hi]
  refine ⟨h.ns i hi, it_ext _ _ (by rw [h.ml i hi]; exact (stMs_len xs hs k i).symm) (fun n hn => ?_), h.late i hi⟩
  rw [h.ml i hi] at hn
  rw [h.ms i n hi hn]
  exact (stMs_it xs hs k i n hn).symm
theorem MsIs.start {xs ys : List Im} (hs : List Cg) (h : SameS xs ys) (hl : ListOk xs) : MsIs xs hs 0 ys :=
  ⟨h.len, fun i hi => (h.each i hi).ns, fun i hi => (h.each i hi).late, fun i hi => by rw [(h.each i hi).ms]; exact (hl.each i hi).eq, fun i n hi _ => by rw [(h.each i hi).ms, mkS_0]; rfl⟩
theorem MsIs.put {xs : List Im} {hs : List Cg} {k : Nat} {ys : List Im} (h : MsIs xs hs k ys) (i n : Nat) (h1 : (it hs k).item = (i : Int)) (h2 : (it hs k).name = (n : Int)) (hi : i < xs.length) (hn : n < (it xs i).ns.length) : MsIs xs hs (k + 1) (ys.set i (setM (it ys i) n (it hs k).mark)) := by
  have hst : StIs xs hs k ys ((List.range xs.length).map fun a => ⟨none, 0, (List.range (it xs a).ns.length).map fun b => opS hs (a : Int) ((b : Nat) : Int) k⟩) := by
    have hg : ∀ a, a < xs.length → it ((List.range xs.length).map fun a => (⟨none, 0, (List.range (it xs a).ns.length).map fun b => opS hs (a : Int) ((b : Nat) : Int) k⟩ : Rw Bool)) a = ⟨none, 0, (List.range (it xs a).ns.length).map fun b => opS hs (a : Int) ((b : Nat) : Int) k⟩ := fun a ha => it_map_range _ _ _ ha
    refine ⟨h.len, h.ns, h.late, h.ml, h.ms, by simp, fun a ha => by rw [hg a ha]; simp, fun a b ha hb => ?_⟩
    rw [hg a ha]
    exact it_map_range _ _ _ hb
  exact (hst.put i n h1 h2 hi hn).msIs
theorem stLs_same {xs ys : List Im} (h : SameS xs ys) (hs : List Cg) (k : Nat) : SameS (stLs xs hs k) (stLs ys hs k) := by
  have hl := h.len
  refine ⟨by rw [stLs_len, stLs_len]; exact hl, fun i hi => ?_⟩
  rw [stLs_len] at hi
  rw [stLs_it xs hs k i hi, stLs_it ys hs k i (by omega)]
  have he := h.each i hi
  refine ⟨he.ns, ?_, he.late⟩
  show stMs ys hs k i = stMs xs hs k i
  unfold stMs
  rw [he.ns]
  exact List.map_congr_left fun n _ => mkS_same h hs _ _ k
def StOk (xs : List Im) (hs : List Cg) (t : Int) : Prop := HiOk xs hs ∧ Tk1 t
noncomputable def stF (xs : List Im) (hs : List Cg) (t : Int) : List Im := @ite _ (StOk xs hs t) (Classical.propDecidable _) (stLs xs hs (cuT hs t hs.length)) []
theorem stF_yes {xs : List Im} {hs : List Cg} {t : Int} (h : StOk xs hs t) : stF xs hs t = stLs xs hs (cuT hs t hs.length) := if_pos h
theorem stF_no {xs : List Im} {hs : List Cg} {t : Int} (h : ¬ StOk xs hs t) : stF xs hs t = [] := if_neg h
theorem stOk_iff {xs ys : List Im} (h : SameS xs ys) (hs : List Cg) (t : Int) : StOk ys hs t ↔ StOk xs hs t := ⟨fun k => ⟨(hiOk_same h hs).1 k.1, k.2⟩, fun k => ⟨k.1.same h, k.2⟩⟩
theorem stOk_same {xs ys : List Im} (h : SameS xs ys) (hs : List Cg) (t : Int) : pB (StOk ys hs t) = pB (StOk xs hs t) := pB_iff (stOk_iff h hs t)
theorem stF_same {xs ys : List Im} (h : SameS xs ys) (hs : List Cg) (t : Int) : SameS (stF xs hs t) (stF ys hs t) := by
  by_cases k : StOk xs hs t
  · rw [stF_yes k, stF_yes ((stOk_iff h hs t).2 k)]
    exact stLs_same h hs _
  · rw [stF_no k, stF_no (fun q => k ((stOk_iff h hs t).1 q))]
    exact SameS.refl _
theorem stF_fits {xs : List Im} (hs : List Cg) (t : Int) (h : ImsFits xs) : ImsFits (stF xs hs t) := by
  by_cases k : StOk xs hs t
  · rw [stF_yes k]
    refine ⟨by rw [stLs_len]; exact h.len, fun i hi => ?_⟩
    rw [stLs_len] at hi
    rw [stLs_it xs hs _ i hi]
    refine ⟨(h.each i hi).ns, ?_⟩
    show (stMs xs hs _ i).length ≤ 1048576
    rw [stMs_len]
    exact (h.each i hi).ns.1
  · rw [stF_no k]
    exact ⟨by simp, fun i hi => absurd hi (by simp)⟩
/-- What StateAt answers. -/
def StAns (xs : List Im) (hs : List Cg) (t : Int) (w : World) (e : Ending) (w' : World) : Prop :=
  ∃ R d zs g G, e = .returned (.tuple #[.slice R zs.length d, .bool (pB (StOk xs hs t))]) ∧ SameS (stF xs hs t) zs ∧ ImsOwn (fun i => w.heap.size ≤ i ∧ i < w'.heap.size) w' R g G zs
theorem stAns_no {xs : List Im} {hs : List Cg} {t : Int} (w w' : World) (h : ¬ StOk xs hs t) : StAns xs hs t w (.returned (.tuple #[.slice none 0 0, .bool false])) w' :=
  ⟨none, 0, [], 0, fun _ => 0, by rw [pB_no h]; rfl, by rw [stF_no h]; exact SameS.refl _, Owned.nil _ _ _, fun i hi => absurd hi (by simp), fun i hi => absurd hi (by simp), fun i hi => absurd hi (by simp), fun i j _ hi => absurd hi (by simp), fun hi => absurd hi (by simp), fun i hi => absurd hi (by simp)⟩
set_option maxHeartbeats 2000000 in
theorem sStateAt_a (P : Option Addr) (c : Nat) (xs : List Im) (A : Option Addr) (ch : Nat) (hs : List Cg) (t : Int) (w : World) (hr : Ims w w.heap.size P xs) (hl : ImsFits xs) (hg : Lst w w.heap.size A hs) (hgl : hs.length ≤ 1048576) :
    Calls Try.prog 19 #[.slice P xs.length c, .slice A hs.length ch, .int .i64 t] w fun e w' => StAns xs hs t w e w' ∧ Below w.heap.size w w' := by
  have HA := Lib.hid (hiAsked_any P c xs A ch hs w hr hl hg hgl)
  have HR := Lib.hid hr
  have HG := Lib.hid hg
  clear hr hl hg
  by_cases hok : HiOk xs hs
  rotate_left
  · have HV := Lib.hid (show ¬ StOk xs hs t from fun h => hok h.1)
    rw [pB_no hok] at HA
    clear hok
    go_enter Try.func19, Try.ntmps19
    go_wp2_with fail
    refine HA.out.mono ?_
    rintro e w1 ⟨rfl, hb1⟩
    have HB1 := Lib.hid hb1
    clear hb1 HA
    go_wp2
    go_returns
    exact ⟨stAns_no _ _ HV.out, HB1.out⟩
  rw [pB_yes hok] at HA
  by_cases ht : Tk1 t
  rotate_left
  · have HV := Lib.hid (show ¬ StOk xs hs t from fun h => ht h.2)
    have HT := Lib.hid (fun W => l1In_no t 0 100000 W ht)
    clear hok ht
    go_enter Try.func19, Try.ntmps19
    go_wp2_with fail
    refine HA.out.mono ?_
    rintro e w1 ⟨rfl, hb1⟩
    have HB1 := Lib.hid hb1
    clear hb1 HA
    go_wp2_with (go_at_call 53; refine (HT.out _).mono ?_; rintro e w2 ⟨rfl, rfl⟩)
    go_returns
    exact ⟨stAns_no _ _ HV.out, HB1.out⟩
  have HV := Lib.hid (show StOk xs hs t from ⟨hok, ht⟩)
  have HT := Lib.hid (fun W => l1In_yes t 0 100000 W ht.1 ht.2)
  have HK := Lib.hid hok
  clear hok ht
  go_enter Try.func19, Try.ntmps19
  go_wp2_with fail
  refine HA.out.mono ?_
  rintro e w1 ⟨rfl, hb1⟩
  have HB1 := Lib.hid hb1
  clear hb1 HA
  have HRN := Lib.hid (hiRun_any P c xs A ch hs t w1 (HR.out.next HB1.out) HK.out.1 ((HG.out.below HB1.out (Nat.le_refl _)).up HB1.out.size) hgl HK.out.2.tk)
  go_wp2_with (first
    | (go_at_call 53; refine (HT.out _).mono ?_; rintro e w2 ⟨rfl, rfl⟩)
    | (go_at_call 54; refine HRN.out.mono ?_; rintro e w2 ⟨⟨bx, h⟩, hb2⟩; obtain ⟨rfl, hall, R, d, g, G, ys, v, T, os, hst, hsi⟩ := h.resolve_left (fun q => q.2 (fun j hj => HK.out.2.ok j (Nat.lt_of_lt_of_le hj (cuT_le _ _ _)))); have HST := Lib.hid hst; have HSI := Lib.hid hsi; have HB2 := Lib.hid (Below_next HB1.out hb2); have x0 := hst.c0; clear h hall hst hsi hb2))
  go_returns
  exact ⟨⟨R, d, ys, g, G, by rw [pB_yes HV.out]; rfl, by rw [stF_yes HV.out]; exact HSI.out.msIs.sameS, HST.out.its.mono (fun i hi => ⟨Nat.le_trans HB1.out.size hi.1, Nat.lt_trans hi.2 HST.out.hi⟩)⟩, HB2.out⟩
set_option maxHeartbeats 4000000 in
set_option maxRecDepth 100000 in
theorem iStateAt_a (P : Option Addr) (c : Nat) (xs : List Im) (A : Option Addr) (ch : Nat) (hs : List Cg) (t : Int) (w : World) (hr : Ims w w.heap.size P xs) (hl : ImsFits xs) (hg : Lst w w.heap.size A hs) (hgl : hs.length ≤ 1048576) (hcap : hs.length ≤ ch ∧ ch ≤ 9223372036854775807) :
    Calls Try.prog 20 #[.slice P xs.length c, .slice A hs.length ch, .int .i64 t] w fun e w' => StAns xs hs t w e w' ∧ Below w.heap.size w w' := by
  have HA := Lib.hid (recordsOf_any P c xs A ch hs w hr hl hg hgl hcap)
  have HR := Lib.hid hr
  have HG := Lib.hid hg
  clear hr hl hg hcap
  by_cases hok : HiOk xs hs
  rotate_left
  · have HV := Lib.hid (show ¬ StOk xs hs t from fun h => hok h.1)
    rw [pB_no hok] at HA
    clear hok
    go_enter Try.func20, Try.ntmps20
    go_wp2_with fail
    refine HA.out.mono ?_
    rintro e w1 ⟨⟨R, d, rs, rfl, _⟩, hb1⟩
    have HB1 := Lib.hid hb1
    clear hb1 HA
    go_wp2
    go_returns
    exact ⟨stAns_no _ _ HV.out, HB1.out⟩
  rw [pB_yes hok] at HA
  have HT := Lib.hid (fun W => (isTick_any t W).mono fun _ _ h => And.intro h.1 h.2.symm)
  by_cases ht : Tk1 t
  rotate_left
  · have HV := Lib.hid (show ¬ StOk xs hs t from fun h => ht h.2)
    rw [pB_no ht] at HT
    clear hok ht
    go_enter Try.func20, Try.ntmps20
    go_wp2_with fail
    refine HA.out.mono ?_
    rintro e w1 ⟨⟨R, d, rs, rfl, _⟩, hb1⟩
    have HB1 := Lib.hid hb1
    clear hb1 HA
    go_wp2_with (go_at_call 55; refine (HT.out _).mono ?_; rintro e w2 ⟨rfl, rfl⟩)
    go_returns
    exact ⟨stAns_no _ _ HV.out, HB1.out⟩
  have HV := Lib.hid (show StOk xs hs t from ⟨hok, ht⟩)
  rw [pB_yes ht] at HT
  have HK := Lib.hid hok
  have h60 := hok.2.few
  clear hok ht
  go_enter Try.func20, Try.ntmps20
  go_wp2_with fail
  refine HA.out.mono ?_
  rintro e w1 ⟨⟨R0, d0, rs, rfl, _⟩, hb1⟩
  have HB1 := Lib.hid hb1
  clear hb1 HA
  go_wp2_with (first
    | (go_at_call 55; refine (HT.out _).mono ?_; rintro e w2 ⟨rfl, rfl⟩)
    | (go_at_call 56; refine (copyOfItems_any P c xs _ (HR.out.next HB1.out) HK.out.1).mono ?_; rintro e w2 ⟨⟨R, d, ys, g, G, rfl, hsm, how⟩, hb2⟩; have HM := Lib.hid (MsIs.start hs hsm HK.out.1); have HO := Lib.hid how; have HB2 := Lib.hid hb2; have hs12 := hb2.size; have hyl := hsm.len; rw [hyl]; clear hsm how hb2 hyl))
  go_loopw [30] (fun q wr => ∃ (m : Nat) (zs : List Im), m ≤ hs.length ∧ q = .int .i64 m ∧ Hid (MsIs xs hs (min m (cuT hs t hs.length)) zs) ∧ Hid (ImsOwn (fun i => w1.heap.size ≤ i ∧ i < w2.heap.size) wr R g G zs) ∧ w2.heap.size ≤ wr.heap.size ∧ Hid (Below w1.heap.size w1 wr)) (fun q _ => hs.length - (intOf q).toNat)
  case atStart => exact ⟨0, ys, Nat.zero_le _, rfl, Lib.hid (by rw [Nat.zero_min]; exact HM.out), HO, Nat.le_refl _, HB2⟩
  case round =>
    obtain ⟨m, zs, hm, rfl, HM, HO, hwr, HB⟩ := hrel
    have hbw := Below_next HB1.out HB.out
    by_cases hlt : m < hs.length
    · obtain ⟨b, o, rfl, hbl, hcc⟩ := (HG.out.below hbw (Nat.le_refl _)).cg (by omega)
      obtain ⟨c0, c1, c2, c3, c4, c5⟩ := hcc m hlt
      have hi1 : (0 : Int) ≤ (m : Int) := by omega
      have hi2 : (m : Int) < (hs.length : Int) := by omega
      have hiff := cuT_iff HK.out.2.tk t hlt
      clear hcc hbl hbw
      by_cases ht : (it hs m).tick ≤ t
      · have hml := hiff.1 ht
        have HE := Lib.hid (And.intro (Nat.min_eq_left (Nat.le_of_lt hml)) (Nat.min_eq_left (show m + 1 ≤ cuT hs t hs.length from hml)))
        have hnm := (HK.out.2.ok m hlt).nm
        obtain ⟨i, hi⟩ : ∃ i : Nat, (it hs m).item = (i : Int) := ⟨(it hs m).item.toNat, by have := hnm.i0; omega⟩
        obtain ⟨n, hn⟩ : ∃ n : Nat, (it hs m).name = (n : Int) := ⟨(it hs m).name.toNat, by have := hnm.n0; omega⟩
        have hix : i < xs.length := by have := hnm.i1; omega
        have hnx : n < (it xs i).ns.length := by
          have := hnm.n1
          rw [hi] at this
          simp only [Int.toNat_natCast] at this
          omega
        have HH := Lib.hid (And.intro hi hn)
        have HM2 := Lib.hid (show MsIs xs hs (m + 1) (zs.set i (setM (it zs i) n (it hs m).mark)) from by
          have h1 := HM.out
          rw [HE.out.1] at h1
          exact h1.put i n hi hn hix hnx)
        have hzl := HM.out.len
        have hml2 := HM.out.ml i hix
        rw [hi] at c2
        rw [hn] at c3
        clear hml hnm hi hn hiff
        go_wp2_with fail
        clear c0 c1 c2 c3 c4 c5
        have hb3 := below_alloc wr (Obj.cells #[.int .i64 (it hs m).tick, .int .i64 (it hs m).caller, .int .i64 (i : Int), .int .i64 (n : Int), .int .i64 (it hs m).mark, .bool (it hs m).review] 50)
        have hx3 := cgBx_new wr ⟨(it hs m).tick, (it hs m).caller, (i : Int), (n : Int), (it hs m).mark, (it hs m).review⟩ 50
        have hs3 : (wr.alloc (Obj.cells #[.int .i64 (it hs m).tick, .int .i64 (it hs m).caller, .int .i64 (i : Int), .int .i64 (n : Int), .int .i64 (it hs m).mark, .bool (it hs m).review] 50)).heap.size = wr.heap.size + 1 := by simp
        unfold Cg.obj at hx3
        generalize World.alloc wr _ = w3 at hb3 hx3 hs3 ⊢
        have HO3 := Lib.hid (HO.out.next (below_next hb3 (below_drew w3)))
        have HB3 := Lib.hid (Below_next HB.out (below_next hb3 (below_drew w3)))
        have hs3' : w3.drew.heap.size = wr.heap.size + 1 := hs3
        generalize hbc : wr.heap.size = bc at hx3 hs3' ⊢
        obtain ⟨g', o', hR, hgl', hcell⟩ := HO3.out.ims.out.im (by omega)
        obtain ⟨b2, o2, e1, e2, e3, e4⟩ := HO3.out.ms i (by omega) (by omega)
        have hG2 := HO3.out.sG (2 * i + 1) (by omega)
        have hgg : g' ≠ b2 := by
          obtain ⟨g9, o9, r1, r2, _⟩ := HO3.out.out (by omega)
          rw [hR] at r1
          injection r1 with r1
          injection r1 with r1 _
          rw [r1, e2]
          subst r2
          exact fun e => HO3.out.ne (2 * i + 1) (by omega) e.symm
        subst hR
        have hci := (hcell i (by omega)).c1
        rw [e1] at hci
        have hbc2 : bc ≠ b2 := by rw [e2]; omega
        have HS4 := Lib.hid (show w3.drew.cell? ⟨bc, 2, none⟩ = some (.int .i64 (i : Int)) ∧ w3.drew.cell? ⟨bc, 3, none⟩ = some (.int .i64 (n : Int)) ∧ w3.drew.cell? ⟨bc, 4, none⟩ = some (.int .i64 (it hs m).mark) ∧ w3.drew.cell? ⟨g', o' + i * 3 + 1, none⟩ = some (.slice (some ⟨b2, o2, none⟩) (it zs i).ms.length (it zs i).d) from ⟨hx3.c2, hx3.c3, hx3.c4, hci⟩)
        have hcm := e4.int n (by omega)
        have m1 := hcm.1
        have m2 := hcm.2
        have HS5 := Lib.hid (show (w3.drew.setCell ⟨b2, o2 + n, none⟩ (.int .i64 (it hs m).mark)).cell? ⟨bc, 2, none⟩ = some (.int .i64 (i : Int)) ∧ (w3.drew.setCell ⟨b2, o2 + n, none⟩ (.int .i64 (it hs m).mark)).cell? ⟨bc, 3, none⟩ = some (.int .i64 (n : Int)) ∧ (w3.drew.setCell ⟨b2, o2 + n, none⟩ (.int .i64 (it hs m).mark)).cell? ⟨bc, 4, none⟩ = some (.int .i64 (it hs m).mark) ∧ (w3.drew.setCell ⟨b2, o2 + n, none⟩ (.int .i64 (it hs m).mark)).cell? ⟨g', o' + i * 3 + 1, none⟩ = some (.slice (some ⟨b2, o2, none⟩) (it zs i).ms.length (it zs i).d) from
          ⟨(World.cell?_setCell_other _ _ _ _ (fun e => hbc2 (congrArg Addr.block e).symm)).trans HS4.out.1, (World.cell?_setCell_other _ _ _ _ (fun e => hbc2 (congrArg Addr.block e).symm)).trans HS4.out.2.1, (World.cell?_setCell_other _ _ _ _ (fun e => hbc2 (congrArg Addr.block e).symm)).trans HS4.out.2.2.1, (World.cell?_setCell_other _ _ _ _ (fun e => hgg (congrArg Addr.block e).symm)).trans HS4.out.2.2.2⟩)
        have HP := Lib.hid (HO3.out.putMs i (by omega) n (by omega) b2 o2 e1 (it hs m).mark)
        have hlo2 : w1.heap.size ≤ b2 := by rw [e2]; exact hG2.1
        have q1 : (0 : Int) ≤ (i : Int) := by omega
        have q2 : (i : Int) < (xs.length : Int) := by omega
        have q3 : (0 : Int) ≤ (n : Int) := by omega
        have q4 : (n : Int) < ((it zs i).ms.length : Int) := by omega
        have q5 : (i : Int) < (zs.length : Int) := by omega
        have hw3 : w2.heap.size ≤ w3.drew.heap.size := by omega
        clear hb3 hx3 hs3 hcell hci hcm e1 e2 e3 e4 hG2 hgg hbc2 hzl hml2
        refine wp_region_held_drew (S := (fun w' => w'.cell? ⟨bc, 2, none⟩ = some (.int .i64 (i : Int)) ∧ w'.cell? ⟨bc, 3, none⟩ = some (.int .i64 (n : Int)) ∧ w'.cell? ⟨bc, 4, none⟩ = some (.int .i64 (it hs m).mark) ∧ w'.cell? ⟨g', o' + i * 3 + 1, none⟩ = some (.slice (some ⟨b2, o2, none⟩) (it zs i).ms.length (it zs i).d))) (by kernel_rfl) ?_ (fun hHeld0 => ?_)
        · ((try dsimp only); exact HS4.out)
        refine wpAnyH_take (i := 0) (oi := _) (v := ?_) rfl (by kernel_rfl) (by kernel_rfl) (by kernel_rfl) (fun _ _ _ h => h) (Or.inl ⟨by rfl, ?_⟩) (by assumption) ?_
        rotate_left
        · (intro w hSw; (try dsimp only at hSw); go_simp; try with_reducible rfl)
        try simp only [Act.put, List.setIfInBounds_toArray, List.set_cons_zero, List.set_cons_succ, List.getElem_toArray, List.getElem_cons_zero]
        refine wpAnyH_take (i := 1) (oi := _) (v := ?_) rfl (by kernel_rfl) (by kernel_rfl) (by kernel_rfl) (fun _ _ _ h => h) (Or.inl ⟨by rfl, ?_⟩) (by assumption) ?_
        rotate_left
        · (intro w hSw; (try dsimp only at hSw); go_simp; try with_reducible rfl)
        try simp only [Act.put, List.setIfInBounds_toArray, List.set_cons_zero, List.set_cons_succ, List.getElem_toArray, List.getElem_cons_zero, List.getElem_cons_succ]
        refine wpAnyH_take (i := 2) (oi := _) (v := ?_) rfl (by kernel_rfl) (by kernel_rfl) (by kernel_rfl) (fun _ _ _ h => h) (Or.inl ⟨by rfl, ?_⟩) (by assumption) ?_
        rotate_left
        · (intro w hSw; (try dsimp only at hSw); go_simp; try with_reducible rfl)
        try simp only [Act.put, List.setIfInBounds_toArray, List.set_cons_zero, List.set_cons_succ, List.getElem_toArray, List.getElem_cons_zero, List.getElem_cons_succ]
        refine wpAnyH_take (i := 3) (oi := _) (v := ?_) rfl (by kernel_rfl) (by kernel_rfl) (by kernel_rfl) (fun _ _ _ h => h) (Or.inl ⟨by rfl, ?_⟩) (by assumption) ?_
        rotate_left
        · (intro w hSw; (try dsimp only at hSw); go_simp; try with_reducible rfl)
        try simp only [Act.put, List.setIfInBounds_toArray, List.set_cons_zero, List.set_cons_succ, List.getElem_toArray, List.getElem_cons_zero, List.getElem_cons_succ]
        refine wpAnyH_take (i := 4) (oi := _) (v := ?_) rfl (by kernel_rfl) (by kernel_rfl) (by kernel_rfl) (fun _ _ _ h => h) (Or.inl ⟨by rfl, ?_⟩) (by assumption) ?_
        rotate_left
        · (intro w hSw; (try dsimp only at hSw); go_simp; try with_reducible rfl)
        try simp only [Act.put, List.setIfInBounds_toArray, List.set_cons_zero, List.set_cons_succ, List.getElem_toArray, List.getElem_cons_zero, List.getElem_cons_succ]
        refine wpAnyH_take (i := 5) (oi := _) (v := ?_) rfl (by kernel_rfl) (by kernel_rfl) (by kernel_rfl) (fun _ _ _ h => h) (Or.inl ⟨by rfl, ?_⟩) (by assumption) ?_
        rotate_left
        · (intro w hSw; (try dsimp only at hSw); go_simp; try with_reducible rfl)
        try simp only [Act.put, List.setIfInBounds_toArray, List.set_cons_zero, List.set_cons_succ, List.getElem_toArray, List.getElem_cons_zero, List.getElem_cons_succ]
        refine wpAnyH_take (i := 6) (oi := _) (v := ?_) rfl (by kernel_rfl) (by kernel_rfl) (by kernel_rfl) (fun _ _ _ h => h) (Or.inl ⟨by rfl, ?_⟩) (by assumption) ?_
        rotate_left
        · (intro w hSw; (try dsimp only at hSw); go_simp; try with_reducible rfl)
        try simp only [Act.put, List.setIfInBounds_toArray, List.set_cons_zero, List.set_cons_succ, List.getElem_toArray, List.getElem_cons_zero, List.getElem_cons_succ]
        refine wpAnyH_take (i := 7) (oi := _) (v := ?_) rfl (by kernel_rfl) (by kernel_rfl) (by kernel_rfl) (fun _ _ _ h => h) (Or.inl ⟨by rfl, ?_⟩) (by assumption) ?_
        rotate_left
        · (intro w hSw; (try dsimp only at hSw); go_simp; try with_reducible rfl)
        try simp only [Act.put, List.setIfInBounds_toArray, List.set_cons_zero, List.set_cons_succ, List.getElem_toArray, List.getElem_cons_zero, List.getElem_cons_succ]
        refine wpAnyH_take (i := 8) (oi := _) (v := ?_) rfl (by kernel_rfl) (by kernel_rfl) (by kernel_rfl) (fun _ _ _ h => h) (Or.inl ⟨by rfl, ?_⟩) (by assumption) ?_
        rotate_left
        · (intro w hSw; (try dsimp only at hSw); go_simp; try with_reducible rfl)
        try simp only [Act.put, List.setIfInBounds_toArray, List.set_cons_zero, List.set_cons_succ, List.getElem_toArray, List.getElem_cons_zero, List.getElem_cons_succ]
        refine wpAnyH_take (i := 9) (oi := _) (v := ?_) rfl (by kernel_rfl) (by kernel_rfl) (by kernel_rfl) (fun _ _ _ h => h) (Or.inl ⟨by rfl, ?_⟩) (by assumption) ?_
        rotate_left
        · (intro w hSw; (try dsimp only at hSw); go_simp; try with_reducible rfl)
        try simp only [Act.put, List.setIfInBounds_toArray, List.set_cons_zero, List.set_cons_succ, List.getElem_toArray, List.getElem_cons_zero, List.getElem_cons_succ]
        refine wpAnyH_take (i := 10) (oi := _) (v := ?_) rfl (by kernel_rfl) (by kernel_rfl) (by kernel_rfl) (fun _ _ _ h => h) (Or.inl ⟨by rfl, ?_⟩) (by assumption) ?_
        rotate_left
        · (intro w hSw; (try dsimp only at hSw); go_simp; try with_reducible rfl)
        try simp only [Act.put, List.setIfInBounds_toArray, List.set_cons_zero, List.set_cons_succ, List.getElem_toArray, List.getElem_cons_zero, List.getElem_cons_succ]
        refine wpAnyH_ready (rs := [11]) (by kernel_rfl) (by simp) ?_
        refine AllReadyH.cons rfl (fun K hK => ?_) ?_
        rotate_left
        · exact AllReadyH.nil
        go_simp
        refine hK.out _ _ ?_ (fun _ => ?_)
        · exact HS5.out
        clear hK K
        refine wpAnyH_done (by kernel_rfl) ?_ _
        go_wp2
        go_roundw
        case rel => exact ⟨m + 1, _, by omega, by go_num, Lib.hid (by rw [HE.out.2]; exact HM2.out), HP, by simpa [World.setCell] using hw3, Lib.hid (HB3.out.setCell (p := ⟨b2, o2 + n, none⟩) hlo2 _)⟩
        case measure => simp [intOf]; omega
      · have hml : cuT hs t hs.length ≤ m := Nat.not_lt.1 (fun q => ht (hiff.2 q))
        have HE := Lib.hid (And.intro (Nat.min_eq_right hml) (Nat.min_eq_right (Nat.le_succ_of_le hml)))
        have ht' : t < (it hs m).tick := by omega
        clear hml ht hiff
        go_wp2
        go_roundw
        case rel => exact ⟨m + 1, zs, by omega, by go_num, Lib.hid (by have h := HM.out; rw [HE.out.1] at h; rw [HE.out.2]; exact h), Lib.hid (HO.out.next (by go_grown)), by simp; omega, Lib.hid (Below_next HB.out (by go_grown))⟩
        case measure => simp [intOf]; omega
    · obtain rfl : m = hs.length := by omega
      have HE := Lib.hid (Nat.min_eq_right (cuT_le hs t hs.length))
      have HBW := Lib.hid hbw
      have hzl := HM.out.len
      clear hbw
      go_wp2
      go_returns
      exact ⟨⟨R, d, zs, g, G, by rw [pB_yes HV.out, hzl]; rfl, by rw [stF_yes HV.out]; have h := HM.out; rw [HE.out] at h; exact h.sameS, HO.out.mono (fun i hi => ⟨Nat.le_trans HB1.out.size hi.1, Nat.lt_of_lt_of_le hi.2 hwr⟩)⟩, HBW.out⟩
theorem stAns_out {xs : List Im} {hs : List Cg} {t : Int} {w : World} {e : Ending} {w' : World} (h : StAns xs hs t w e w' ∧ Below w.heap.size w w') : (∃ R d zs g G, e = .returned (.tuple #[.slice R zs.length d, .bool (pB (StOk xs hs t))]) ∧ SameS (stF xs hs t) zs ∧ ImsOwn (fun i => w.heap.size ≤ i ∧ i < w'.heap.size) w' R g G zs) ∧ Below w.heap.size w w' := h
theorem sStateAt_any (P : Option Addr) (c : Nat) (xs : List Im) (A : Option Addr) (ch : Nat) (hs : List Cg) (t : Int) (w : World) (hr : Ims w w.heap.size P xs) (hl : ImsFits xs) (hg : Lst w w.heap.size A hs) (hgl : hs.length ≤ 1048576) (hcap : hs.length ≤ ch ∧ ch ≤ 9223372036854775807) :
    Calls Try.prog 19 #[.slice P xs.length c, .slice A hs.length ch, .int .i64 t] w fun e w' => (∃ R d zs g G, e = .returned (.tuple #[.slice R zs.length d, .bool (pB (StOk xs hs t))]) ∧ SameS (stF xs hs t) zs ∧ ImsOwn (fun i => w.heap.size ≤ i ∧ i < w'.heap.size) w' R g G zs) ∧ Below w.heap.size w w' :=
  (sStateAt_a P c xs A ch hs t w hr hl hg hgl).mono fun _ _ h => stAns_out h
theorem iStateAt_any (P : Option Addr) (c : Nat) (xs : List Im) (A : Option Addr) (ch : Nat) (hs : List Cg) (t : Int) (w : World) (hr : Ims w w.heap.size P xs) (hl : ImsFits xs) (hg : Lst w w.heap.size A hs) (hgl : hs.length ≤ 1048576) (hcap : hs.length ≤ ch ∧ ch ≤ 9223372036854775807) :
    Calls Try.prog 20 #[.slice P xs.length c, .slice A hs.length ch, .int .i64 t] w fun e w' => (∃ R d zs g G, e = .returned (.tuple #[.slice R zs.length d, .bool (pB (StOk xs hs t))]) ∧ SameS (stF xs hs t) zs ∧ ImsOwn (fun i => w.heap.size ≤ i ∧ i < w'.heap.size) w' R g G zs) ∧ Below w.heap.size w w' :=
  (iStateAt_a P c xs A ch hs t w hr hl hg hgl hcap).mono fun _ _ h => stAns_out h
theorem sFinalState_any (P : Option Addr) (c : Nat) (xs : List Im) (A : Option Addr) (ch : Nat) (hs : List Cg) (w : World) (hr : Ims w w.heap.size P xs) (hl : ImsFits xs) (hg : Lst w w.heap.size A hs) (hgl : hs.length ≤ 1048576) (hcap : hs.length ≤ ch ∧ ch ≤ 9223372036854775807) :
    Calls Try.prog 24 #[.slice P xs.length c, .slice A hs.length ch] w fun e w' => (∃ R d zs g G, e = .returned (.tuple #[.slice R zs.length d, .bool (pB (StOk xs hs 100000))]) ∧ SameS (stF xs hs 100000) zs ∧ ImsOwn (fun i => w.heap.size ≤ i ∧ i < w'.heap.size) w' R g G zs) ∧ Below w.heap.size w w' := by
  have HA := Lib.hid (sStateAt_any P c xs A ch hs 100000 w hr hl hg hgl hcap)
  clear hr hl hg
  go_enter Try.func24, Try.ntmps24
  go_wp2_with fail
  refine HA.out.mono ?_
  rintro e w1 ⟨⟨R, d, zs, g, G, rfl, h1, h2⟩, hb1⟩
  have HH := Lib.hid (And.intro h1 (And.intro h2 hb1))
  clear h1 h2 hb1 HA
  go_wp2
  go_returns
  exact ⟨⟨R, d, zs, g, G, rfl, HH.out.1, HH.out.2.1⟩, HH.out.2.2⟩
theorem iFinalState_any (P : Option Addr) (c : Nat) (xs : List Im) (A : Option Addr) (ch : Nat) (hs : List Cg) (w : World) (hr : Ims w w.heap.size P xs) (hl : ImsFits xs) (hg : Lst w w.heap.size A hs) (hgl : hs.length ≤ 1048576) (hcap : hs.length ≤ ch ∧ ch ≤ 9223372036854775807) :
    Calls Try.prog 25 #[.slice P xs.length c, .slice A hs.length ch] w fun e w' => (∃ R d zs g G, e = .returned (.tuple #[.slice R zs.length d, .bool (pB (StOk xs hs 100000))]) ∧ SameS (stF xs hs 100000) zs ∧ ImsOwn (fun i => w.heap.size ≤ i ∧ i < w'.heap.size) w' R g G zs) ∧ Below w.heap.size w w' := by
  have HA := Lib.hid (iStateAt_any P c xs A ch hs 100000 w hr hl hg hgl hcap)
  clear hr hl hg
  go_enter Try.func25, Try.ntmps25
  go_wp2_with fail
  refine HA.out.mono ?_
  rintro e w1 ⟨⟨R, d, zs, g, G, rfl, h1, h2⟩, hb1⟩
  have HH := Lib.hid (And.intro h1 (And.intro h2 hb1))
  clear h1 h2 hb1 HA
  go_wp2
  go_returns
  exact ⟨⟨R, d, zs, g, G, rfl, HH.out.1, HH.out.2.1⟩, HH.out.2.2⟩
end Go.Proofs.Ythbkfekbpjkhnaa
