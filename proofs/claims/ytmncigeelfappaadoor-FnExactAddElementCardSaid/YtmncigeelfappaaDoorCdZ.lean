/- A code with one element more, in the program. -/
import Derived.Test.YtmncigeelfappaaDoorCdJ
namespace Go.Proofs.YtmncigeelfappaaDoor
open Go.ChangeShapes Go.WideShapes Go.ChangeAt Go.RowKit Go.PlainAid Go.Sort
set_option linter.unusedVariables false

/-- Where a name's place is: behind all smaller ones at the beginning. -/
structure InsP (xs : List El) (n : ByteArray) (k : Nat) : Prop where
  le : k ≤ xs.length
  lt : ∀ j, j < k → nlt (it xs j).name n = true
  stop : k < xs.length → nlt (it xs k).name n = false
theorem InsP.from (xs : List El) (n : ByteArray) : ∀ (m k : Nat), k + m = xs.length → (∀ j, j < k → nlt (it xs j).name n = true) → ∃ r, InsP xs n r
  | 0, k, hk, h => ⟨k, by omega, h, fun hlt => by omega⟩
  | m + 1, k, hk, h => by
    rcases hb : nlt (it xs k).name n with _ | _
    · exact ⟨k, by omega, h, fun _ => hb⟩
    · exact InsP.from xs n m (k + 1) (by omega) (fun j hj => by
        rcases Nat.lt_or_ge j k with h' | h'
        · exact h j h'
        · obtain rfl : j = k := by omega
          exact hb)
theorem InsP.have (xs : List El) (n : ByteArray) : ∃ r, InsP xs n r := InsP.from xs n xs.length 0 (Nat.zero_add _) (fun _ h => absurd h (Nat.not_lt_zero _))
theorem InsP.hit {xs : List El} {n : ByteArray} {r k : Nat} (h : InsP xs n r) (hk : k ≤ r) (hs : nlt (it xs k).name n = false) : k = r := by
  rcases Nat.lt_or_ge k r with h' | h'
  · rw [h.lt k h'] at hs
    cases hs
  · omega
theorem InsP.go {xs : List El} {n : ByteArray} {r k : Nat} (h : InsP xs n r) (hk : k ≤ r) (hl : k < xs.length) (hs : nlt (it xs k).name n = true) : k < r := by
  rcases Nat.lt_or_ge k r with h' | h'
  · exact h'
  · obtain rfl : r = k := by omega
    rw [h.stop hl] at hs
    cases hs
def adCd (x : Cd) (y : El) (i : Nat) : Cd := { x with els := insEl x.els i y }
def AdOk (x : Cd) (y : El) (r : Nat) : Prop := CdOk x ∧ CdOk (adCd x y r)
noncomputable def adR (x : Cd) (y : El) (r : Nat) : Cd := @ite _ (AdOk x y r) (Classical.propDecidable _) (adCd x y r) Cd.zero
theorem adR_yes {x : Cd} {y : El} {r : Nat} (h : AdOk x y r) : adR x y r = adCd x y r := by unfold adR; exact @if_pos _ (Classical.propDecidable _) h _ _ _
theorem adR_no {x : Cd} {y : El} {r : Nat} (h : ¬ AdOk x y r) : adR x y r = Cd.zero := by unfold adR; exact @if_neg _ (Classical.propDecidable _) h _ _ _
theorem adR_fits (x : Cd) (y : El) (r : Nat) : CdFits (adR x y r) := by
  by_cases h : AdOk x y r
  · rw [adR_yes h]
    exact Cd.fit h.2
  · rw [adR_no h]
    exact zero_fits
theorem adCd_fits {x : Cd} {y : El} {i : Nat} (h : CdOk x) (hy : y.name.size ≤ 1048576) (hi : i ≤ x.els.length) : CdFits (adCd x y i) := by
  refine ⟨⟨?_, fun j hj => ?_⟩, ?_⟩
  · have := h.els.hi
    show (insEl x.els i y).length ≤ _
    rw [insEl_len _ _ _ hi]
    omega
  · show (it (insEl x.els i y) j).name.size ≤ _
    have hm : it (insEl x.els i y) j ∈ insEl x.els i y := it_mem hj
    unfold insEl at hm
    rcases List.mem_append.1 hm with hm | hm
    · obtain ⟨k, hk, he⟩ := mem_it (List.mem_of_mem_take hm)
      unfold insEl
      rw [← he]
      exact El.fit (h.els.el k hk)
    · rcases List.mem_cons.1 hm with hm | hm
      · unfold insEl
        rw [hm]
        exact hy
      · obtain ⟨k, hk, he⟩ := mem_it (List.mem_of_mem_drop hm)
        unfold insEl
        rw [← he]
        exact El.fit (h.els.el k hk)
  · have := h.lims.len
    show x.lims.length ≤ _
    omega
/-- An element's box. -/
structure ElB (w : World) (b : Nat) (x : El) : Prop where
  lt : b < w.heap.size
  at_ : ElAt w b 0 x
theorem ElB.next {w w' : World} {b : Nat} {x : El} (h : ElB w b x) (k : Below w.heap.size w w') : ElB w' b x := ⟨Nat.lt_of_lt_of_le h.lt k.size, h.at_.below k h.lt⟩
theorem below_drewN' {B : Nat} (w : World) (n : Nat) : Below B w (w.drewN n) := by
  induction n with
  | zero => exact Below.refl _ _
  | succ n ih => exact ih.drew
theorem elB_new (w : World) (y : El) (t : TypeId) : ElB (w.alloc (.cells #[.string y.name, .int .i64 y.fam, .int .i64 y.lev, .int .i64 y.base] t)) w.heap.size y := ⟨by simp, ⟨by simp, by simp, by simp, by simp⟩⟩
theorem elB_new' (w : World) (y : El) (t : TypeId) (o : Obj) {b : Nat} (hb : w.heap.size = b) : ElB ((w.alloc (.cells #[.string y.name, .int .i64 y.fam, .int .i64 y.lev, .int .i64 y.base] t)).alloc o) b y := hb ▸ (elB_new w y t).next (below_alloc _ _)
theorem ElB.own {w : World} {b : Nat} {y : El} (h : ElB w b y) (hf : ∀ j, w.frozen? ⟨b, j, none⟩ = false) : OwnAt w b 0 [y] := by
  refine ⟨fun i hi j v hv => ?_, fun i j hi hj => hf _⟩
  obtain rfl : i = 0 := by
    have : i < 1 := hi
    omega
  obtain ⟨c0, c1, c2, c3⟩ := h.at_
  have hc : (Flat.cells y)[j]? = some v := hv
  match j, hc with
  | 0, hc => rw [← hc]; exact c0
  | 1, hc => rw [← hc]; exact c1
  | 2, hc => rw [← hc]; exact c2
  | 3, hc => rw [← hc]; exact c3
  | j + 4, hc => cases hc
theorem plain_new (w : World) (y : El) : Plain (w.alloc (.cells #[.string y.name, .int .i64 y.fam, .int .i64 y.lev, .int .i64 y.base] 49)) w.heap.size 4 := ⟨_, heap_alloc_new w _, rfl⟩

set_option maxHeartbeats 4000000 in
theorem iAdd_any (A L : Option Addr) (c d : Nat) (x : Cd) (y : El) (r : Nat) (w : World) (hr : CdAt w A L x) (hl : CdFits x) (hy : y.name.size ≤ 1048576) (hi : InsP x.els y.name r) (ht : Tab w) :
    Calls Tryd.prog 32 #[x.val A c L d, y.val] w (CodeAns w (adR x y r) (AdOk x y r)) := by
  have HR := Lib.hid hr
  have HL := Lib.hid hl
  have HT := Lib.hid ht
  have HIN := Lib.hid hi
  have HY := Lib.hid hy
  clear hr hl ht hi hy
  unfold Cd.val
  go_enter Tryd.func32, Tryd.ntmps32
  go_wp2_with fail
  generalize hW : World.alloc (World.alloc (World.alloc w _) _) _ = W
  have hB : Below w.heap.size w W := by
    rw [← hW]
    go_grown
  have hS : W.heap.size = w.heap.size + 3 := by rw [← hW]; simp
  have hX : BoxAt W w.heap.size A c L d x := ⟨by omega, by
    rw [← hW]
    exact ((cdBox_new w _ _ rfl A c L d x).below ((Below.refl _ _).alloc (Nat.le_refl _) _) (by simp)).below ((Below.refl _ _).alloc (Nat.le_refl _) _) (by simp; omega)⟩
  have hE : ElB W (w.heap.size + 1) y := by
    rw [← hW]
    exact elB_new' _ y _ _ (by simp)
  have hM : CdMem W (w.heap.size + 1 + 1) (.slice none 0 0) (.slice none 0 0) (.int .i64 0) (.int .i64 0) (.int .i64 0) (.int .i64 0) := by
    rw [← hW]
    exact cdMem_new _ _ _ (by simp) _ _ _ _ _ _
  clear hW
  refine (iIsCode_any A L c d x W (HR.out.below hB) HL.out (HT.out.next hB)).mono ?_
  rintro e w2 ⟨he, hb⟩
  have HM2 := Lib.hid (hM.below hb (by omega))
  have HX2 := Lib.hid (hX.next hb)
  have HE2 := Lib.hid (hE.next hb)
  have HR2 := Lib.hid ((HR.out.below hB).below hb)
  have HT2 := Lib.hid ((HT.out.next hB).next hb)
  have HB2 := Lib.hid (Below_next hB hb)
  have HS2 := Lib.hid (show w.heap.size + 3 ≤ w2.heap.size by rw [← hS]; exact hb.size)
  clear hB hb hX hM hS hE
  by_cases hok : CdOk x
  · rw [pB_yes hok] at he
    subst he
    have HOK := Lib.hid hok
    clear hok
    obtain ⟨x0, x1, x2, x3, x4, x5⟩ := HX2.out.box
    obtain ⟨e0, e1, e2, e3⟩ := HE2.out.at_
    go_wp2_with fail
    go_loopw [6] (fun i wr => ∃ k nn : Nat, k ≤ r ∧ i = .int .i64 k ∧ wr = w2.drewN nn) (fun i _ => x.els.length - (intOf i).toNat)
    case atStart => exact ⟨0, 0, Nat.zero_le _, rfl, rfl⟩
    case round =>
      obtain ⟨k, nn, hk, rfl, rfl⟩ := hrel
      have hrl := HIN.out.le
      have h24 := HOK.out.els.hi
      by_cases hlt : k < x.els.length
      · obtain ⟨b, o, rfl, hbl, hc⟩ := HR2.out.els.el' (by omega)
        obtain ⟨c0, _, _, _⟩ := elAt (hc k hlt)
        have k0 : (0 : Int) ≤ (k : Int) := by omega
        have k1 : (k : Int) < (x.els.length : Int) := by omega
        rcases hn : nlt (it x.els k).name y.name with _ | _
        · obtain rfl := (HIN.out.hit hk hn).symm
          unfold nlt at hn
          clear hc
          go_wp2
          go_quiet (fail)
          go_wp2_with fail
          clear x0 x1 x2 x3 x4 x5 e0 e1 e2 e3
          generalize hw3 : World.drewN w2 _ = w3
          have hb3 : Below w2.heap.size w2 w3 := by rw [← hw3]; exact below_drewN' _ _
          have HM3 := Lib.hid (HM2.out.below hb3 (by have := HS2.out; omega))
          have HE3 := Lib.hid (HE2.out.next hb3)
          have HR3 := Lib.hid (HR2.out.below hb3)
          have HT3 := Lib.hid (HT2.out.next hb3)
          have HB3 := Lib.hid (Below_next HB2.out hb3)
          have HS3 := Lib.hid (Nat.le_trans HS2.out hb3.size)
          have HS23 := Lib.hid hb3.size
          clear hb3 hw3
          refine (iCopy_any _ L c d x w3 HR3.out HOK.out).mono ?_
          rintro e w4 ⟨g1, c1, g2, c2, rfl, ho, hi', h1, h2, h3, hb⟩
          obtain ⟨w5, hW, hB5⟩ := boxed 30 w4 (some ⟨g1, 0, none⟩) c1 (some ⟨g2, 0, none⟩) c2 x
          obtain ⟨w6, hW6⟩ : ∃ w6, w6 = w5.alloc (.cells #[.string y.name, .int .i64 y.fam, .int .i64 y.lev, .int .i64 y.base] 49) := ⟨_, rfl⟩
          have hb6 : Below w5.heap.size w5 w6 := by rw [hW6]; exact below_alloc _ _
          have hb5 := Below_next hb hB5.below
          have hb36 := Below_next hb5 hb6
          have hs6 : w6.heap.size = w5.heap.size + 1 := by rw [hW6]; simp
          have HS6 := Lib.hid (show w3.heap.size ≤ g1 ∧ g1 < w4.heap.size ∧ w5.heap.size = w4.heap.size + 1 ∧ w6.heap.size = w4.heap.size + 2 ∧ w3.heap.size ≤ g2 ∧ g2 < w4.heap.size ∧ g1 ≠ g2 ∧ w.heap.size + 3 ≤ w3.heap.size from ⟨ho.le, ho.lt, hB5.size, by rw [hs6, hB5.size], h1, h2, h3, HS3.out⟩)
          have HM6 := Lib.hid (HM3.out.below hb36 (by have := HS3.out; omega))
          have HT6 := Lib.hid (HT3.out.next hb36)
          have HB6 := Lib.hid (Below_next HB3.out hb36)
          have HE5 := Lib.hid (HE3.out.next hb5)
          have HR6 := Lib.hid ((ho.next hB5.below).next hb6)
          have HI6 := Lib.hid ((hi'.next h2 hB5.below).next (Nat.lt_of_lt_of_le h2 hB5.below.size) hb6)
          have HV6 := Lib.hid (show OwnAt w6 w5.heap.size 0 [y] by
            rw [hW6]
            exact (elB_new w5 y _).own (fun j => (plain_new w5 y).free j))
          have HP6 := Lib.hid (show Plain w6 w5.heap.size 4 by rw [hW6]; exact plain_new w5 y)
          unfold boxCd at hW
          have hYm : CdMem w5 w4.heap.size (.slice (some ⟨g1, 0, none⟩) x.els.length c1) (.slice (some ⟨g2, 0, none⟩) x.lims.length c2) (.int .i64 x.rep) (.int .i64 x.bon) (.int .i64 x.kee) (.int .i64 x.fal) := by rw [hW]; exact cdMem_new w4 _ _ rfl _ _ _ _ _ _
          have HY5 := Lib.hid hYm
          have HY6 := Lib.hid (hYm.below hb6 (by rw [hB5.size]; omega))
          have hins := insert_any w3.heap.size g1 c1 r x.els.length w5.heap.size 1 x.els y w6 HR6.out HIN.out.le HL.out.1.1 HV6.out HP6.out (by have := HS6.out; omega) (by omega) (by have := HS6.out; omega)
          rw [hB5.size] at hins
          have HINS := Lib.hid hins
          clear hins
          clear hb ho hi' h1 h2 h3 hB5 hb5 hb6 hb36 hYm hs6
          obtain ⟨y0, y1, y2, y3, y4, y5, yf⟩ := HY5.out
          obtain ⟨e0, e1, e2, e3⟩ := HE5.out.at_
          simp only [Nat.zero_add] at e1 e2 e3
          rw [hW] at e0 e1 e2 e3
          go_wp2_with fail
          rw [← hW, ← hW6]
          clear hW hW6 y0 y1 y2 y3 y4 y5 yf e0 e1 e2 e3
          refine HINS.out.mono ?_
          rintro e w7 ⟨g7, c7, rfl, ho, hk, hg, hgl⟩
          have HS7 := Lib.hid (show (g7 = g1 ∨ g7 = w6.heap.size) ∧ g7 < w7.heap.size ∧ w6.heap.size ≤ w7.heap.size from ⟨hg, hgl, hk.size⟩)
          have HM7 := Lib.hid (HM6.out.only hk (by have := HS6.out; omega) (by have := HS6.out; omega))
          have HY7 := Lib.hid (HY6.out.only hk (by have := HS6.out; omega) (by have := HS6.out; omega))
          have HI7 := Lib.hid (HI6.out.block (hk.block g2 (by have := HS6.out; omega) (by have := HS6.out; omega)))
          have HB7 := Lib.hid (HB6.out.trans (hk.below HB6.out.size (fun k e => by have := HS6.out; omega)))
          have HT7 := Lib.hid (HT6.out.only hk (by have := HT2.out.lt; have := HS6.out; have := HB2.out.size; have := HS23.out; omega))
          have HO7 := Lib.hid ho
          clear ho hk hg hgl
          obtain ⟨y0, y1, y2, y3, y4, y5, yf⟩ := HY7.out
          obtain ⟨w8, hw8⟩ : ∃ w8, w8 = w7.setCell ⟨w4.heap.size, 0, none⟩ (.slice (some ⟨g7, 0, none⟩) (x.els.length + 1) c7) := ⟨_, rfl⟩
          have hk8 : Only (fun k => k = w4.heap.size) w7 w8 := by rw [hw8]; exact (Only.refl (fun k => k = w4.heap.size) w7).put w4.heap.size 0 rfl _
          have HQ := Lib.hid (show (w3.heap.size ≤ g1 ∧ g1 < w4.heap.size ∧ w6.heap.size = w4.heap.size + 2 ∧ w3.heap.size ≤ g2 ∧ g2 < w4.heap.size ∧ g1 ≠ g2 ∧ w.heap.size + 3 ≤ w3.heap.size) ∧ (g7 = g1 ∨ g7 = w6.heap.size) ∧ g7 < w7.heap.size ∧ w6.heap.size ≤ w7.heap.size ∧ w7.heap.size ≤ w8.heap.size by have h1 := HS6.out; have h2 := HS7.out; exact ⟨⟨h1.1, h1.2.1, h1.2.2.2.1, h1.2.2.2.2.1, h1.2.2.2.2.2.1, h1.2.2.2.2.2.2.1, h1.2.2.2.2.2.2.2⟩, h2.1, h2.2.1, h2.2.2, hk8.size⟩)
          have HY8 : Hid (CdMem w8 w4.heap.size (.slice (some ⟨g7, 0, none⟩) (x.els.length + 1) c7) (.slice (some ⟨g2, 0, none⟩) x.lims.length c2) (.int .i64 x.rep) (.int .i64 x.bon) (.int .i64 x.kee) (.int .i64 x.fal)) := Lib.hid (by rw [hw8]; exact HY7.out.set0 _)
          have HM8 := Lib.hid (HM7.out.only hk8 (by have := HQ.out; omega) (by have := HQ.out; omega))
          have HO8 := Lib.hid (HO7.out.block (hk8.block g7 (by have := HQ.out; omega) (by have := HQ.out; omega)))
          have HI8 := Lib.hid (HI7.out.block (hk8.block g2 (by have := HQ.out; omega) (by have := HQ.out; omega)))
          have HB8 := Lib.hid (HB7.out.trans (hk8.below HB7.out.size (fun k e => by have := HQ.out; omega)))
          have HT8 := Lib.hid (HT7.out.only hk8 (by have := HQ.out; have := HT2.out.lt; have := HS23.out; omega))
          have HLEN := Lib.hid (show (adCd x y r).els.length = x.els.length + 1 from insEl_len _ _ _ HIN.out.le)
          clear hk8
          have hat : CdAt w8 (some ⟨g7, 0, none⟩) (some ⟨g2, 0, none⟩) (adCd x y r) := ⟨fun _ => ⟨g7, 0, rfl, by have := HQ.out; omega, HO8.out.cell⟩, fun _ => ⟨g2, 0, rfl, by have := HQ.out; omega, HI8.out.cell⟩⟩
          have hcall := iIfValid_any (some ⟨g7, 0, none⟩) (some ⟨g2, 0, none⟩) c7 c2 (adCd x y r) w8 hat (adCd_fits HOK.out HY.out HIN.out.le) HT8.out
          unfold Cd.val at hcall
          rw [HLEN.out] at hcall
          have HCALL := Lib.hid hcall
          clear hcall hat
          go_wp2_with fail
          rw [← hw8]
          clear hw8 y0 y1 y2 y3 y4 y5 yf
          refine HCALL.out.mono ?_
          rintro e w9 ⟨hy, hn, hb⟩
          have HM9 := Lib.hid (HM8.out.below hb (by have := HQ.out; omega))
          have HO9 := Lib.hid (HO8.out.block (hb.block g7 (by have := HQ.out; omega)))
          have HI9 := Lib.hid (HI8.out.block (hb.block g2 (by have := HQ.out; omega)))
          have HB9 := Lib.hid (Below_next HB8.out hb)
          have HS9 := Lib.hid hb.size
          clear hb
          obtain ⟨m0, m1, m2, m3, m4, m5, mf⟩ := HM9.out
          by_cases hR : CdOk (adCd x y r)
          · have HRR := Lib.hid (show AdOk x y r from ⟨HOK.out, hR⟩)
            have he := hy hR
            clear hy hn hR
            subst he
            go_wp2
            refine stop_body ⟨?_⟩
            intro wz hwz
            have hmz := HM9.out.all (.slice (some ⟨g7, 0, none⟩) (x.els.length + 1) c7) (.slice (some ⟨g2, 0, none⟩) x.lims.length c2) (.int .i64 x.rep) (.int .i64 x.bon) (.int .i64 x.kee) (.int .i64 x.fal)
            have hkz := only_six w9 (w.heap.size + 1 + 1) (.slice (some ⟨g7, 0, none⟩) (x.els.length + 1) c7) (.slice (some ⟨g2, 0, none⟩) x.lims.length c2) (.int .i64 x.rep) (.int .i64 x.bon) (.int .i64 x.kee) (.int .i64 x.fal)
            rw [show put6 w9 (w.heap.size + 1 + 1) (.slice (some ⟨g7, 0, none⟩) (x.els.length + 1) c7) (.slice (some ⟨g2, 0, none⟩) x.lims.length c2) (.int .i64 x.rep) (.int .i64 x.bon) (.int .i64 x.kee) (.int .i64 x.fal) = wz from hwz.symm] at hmz hkz
            have HKZ := Lib.hid hkz
            clear hwz hkz m0 m1 m2 m3 m4 m5 mf
            obtain ⟨m0, m1, m2, m3, m4, m5, mf⟩ := hmz
            refine bodyPost_ret (v := .tuple #[.agg #[.slice (some ⟨g7, 0, none⟩) (x.els.length + 1) c7, .slice (some ⟨g2, 0, none⟩) x.lims.length c2, .int .i64 x.rep, .int .i64 x.bon, .int .i64 x.kee, .int .i64 x.fal], .bool true]) (by simp [results, Tryd.results32, go_sem, m0, m1, m2, m3, m4, m5]) rfl ?_
            refine ⟨⟨some ⟨g7, 0, none⟩, c7, some ⟨g2, 0, none⟩, c2, g7, g2, ?_, ?_, by have := HQ.out; omega, ?_, ?_⟩, HB9.out.trans (HKZ.out.below HB9.out.size (fun k hk => by omega))⟩
            · rw [adR_yes HRR.out, pB_yes HRR.out]
              show _ = Ending.returned (.tuple #[.agg #[.slice (some ⟨g7, 0, none⟩) (adCd x y r).els.length c7, _, _, _, _, _], _])
              rw [HLEN.out]
              rfl
            · rw [adR_yes HRR.out]
              exact ⟨fun _ => ⟨g7, 0, rfl, rfl, by have := HQ.out; have := HS9.out; have := HKZ.out.size; omega, HO9.out.block (HKZ.out.block g7 (by have := HQ.out; have := HS9.out; omega) (by have := HQ.out; omega))⟩, fun _ => ⟨g2, 0, rfl, rfl, by have := HQ.out; have := HS9.out; have := HKZ.out.size; omega, HI9.out.block (HKZ.out.block g2 (by have := HQ.out; have := HS9.out; omega) (by have := HQ.out; omega))⟩⟩
            · have := HQ.out; have := HS9.out; have := HKZ.out.size; omega
            · have := HQ.out; have := HS9.out; have := HKZ.out.size; omega
          · have HRR := Lib.hid (fun h : AdOk x y r => hR h.2)
            have he := hn hR
            clear hy hn hR
            subst he
            unfold Cd.zero
            go_wp2
            refine stop_body ⟨?_⟩
            intro wz hwz
            have hmz := HM9.out.all (.slice none 0 0) (.slice none 0 0) (.int .i64 0) (.int .i64 0) (.int .i64 0) (.int .i64 0)
            have hkz := only_six w9 (w.heap.size + 1 + 1) (.slice none 0 0) (.slice none 0 0) (.int .i64 0) (.int .i64 0) (.int .i64 0) (.int .i64 0)
            rw [show put6 w9 (w.heap.size + 1 + 1) (.slice none 0 0) (.slice none 0 0) (.int .i64 0) (.int .i64 0) (.int .i64 0) (.int .i64 0) = wz from hwz.symm] at hmz hkz
            have HKZ := Lib.hid hkz
            clear hwz hkz m0 m1 m2 m3 m4 m5 mf
            obtain ⟨m0, m1, m2, m3, m4, m5, mf⟩ := hmz
            refine bodyPost_ret (v := .tuple #[.agg #[.slice none 0 0, .slice none 0 0, .int .i64 0, .int .i64 0, .int .i64 0, .int .i64 0], .bool false]) (by simp [results, Tryd.results32, go_sem, m0, m1, m2, m3, m4, m5]) rfl ?_
            exact codeAns_no HRR.out (adR_no HRR.out) rfl (by have := HQ.out; have := HS9.out; have := HKZ.out.size; omega) (HB9.out.trans (HKZ.out.below HB9.out.size (fun k hk => by omega)))
        · have HI := Lib.hid (HIN.out.go hk hlt hn)
          unfold nlt at hn
          clear hc
          go_wp2
          go_quiet (fail)
          go_wp2
          go_roundw
          case rel => exact ⟨k + 1, _, HI.out, by go_num, rfl⟩
          case measure => simp [intOf]; omega
      · obtain rfl : r = k := by omega
        have kx : ¬ ((r : Int) < (x.els.length : Int)) := by omega
        have kd : decide ((r : Int) < (x.els.length : Int)) = false := by simp [kx]
        go_wp2
        go_quiet (fail)
        go_wp2_with fail
        clear x0 x1 x2 x3 x4 x5 e0 e1 e2 e3
        generalize hw3 : World.drewN w2 _ = w3
        have hb3 : Below w2.heap.size w2 w3 := by rw [← hw3]; exact below_drewN' _ _
        have HM3 := Lib.hid (HM2.out.below hb3 (by have := HS2.out; omega))
        have HE3 := Lib.hid (HE2.out.next hb3)
        have HR3 := Lib.hid (HR2.out.below hb3)
        have HT3 := Lib.hid (HT2.out.next hb3)
        have HB3 := Lib.hid (Below_next HB2.out hb3)
        have HS3 := Lib.hid (Nat.le_trans HS2.out hb3.size)
        have HS23 := Lib.hid hb3.size
        clear hb3 hw3
        refine (iCopy_any _ L c d x w3 HR3.out HOK.out).mono ?_
        rintro e w4 ⟨g1, c1, g2, c2, rfl, ho, hi', h1, h2, h3, hb⟩
        obtain ⟨w5, hW, hB5⟩ := boxed 30 w4 (some ⟨g1, 0, none⟩) c1 (some ⟨g2, 0, none⟩) c2 x
        obtain ⟨w6, hW6⟩ : ∃ w6, w6 = w5.alloc (.cells #[.string y.name, .int .i64 y.fam, .int .i64 y.lev, .int .i64 y.base] 49) := ⟨_, rfl⟩
        have hb6 : Below w5.heap.size w5 w6 := by rw [hW6]; exact below_alloc _ _
        have hb5 := Below_next hb hB5.below
        have hb36 := Below_next hb5 hb6
        have hs6 : w6.heap.size = w5.heap.size + 1 := by rw [hW6]; simp
        have HS6 := Lib.hid (show w3.heap.size ≤ g1 ∧ g1 < w4.heap.size ∧ w5.heap.size = w4.heap.size + 1 ∧ w6.heap.size = w4.heap.size + 2 ∧ w3.heap.size ≤ g2 ∧ g2 < w4.heap.size ∧ g1 ≠ g2 ∧ w.heap.size + 3 ≤ w3.heap.size from ⟨ho.le, ho.lt, hB5.size, by rw [hs6, hB5.size], h1, h2, h3, HS3.out⟩)
        have HM6 := Lib.hid (HM3.out.below hb36 (by have := HS3.out; omega))
        have HT6 := Lib.hid (HT3.out.next hb36)
        have HB6 := Lib.hid (Below_next HB3.out hb36)
        have HE5 := Lib.hid (HE3.out.next hb5)
        have HR6 := Lib.hid ((ho.next hB5.below).next hb6)
        have HI6 := Lib.hid ((hi'.next h2 hB5.below).next (Nat.lt_of_lt_of_le h2 hB5.below.size) hb6)
        have HV6 := Lib.hid (show OwnAt w6 w5.heap.size 0 [y] by
          rw [hW6]
          exact (elB_new w5 y _).own (fun j => (plain_new w5 y).free j))
        have HP6 := Lib.hid (show Plain w6 w5.heap.size 4 by rw [hW6]; exact plain_new w5 y)
        unfold boxCd at hW
        have hYm : CdMem w5 w4.heap.size (.slice (some ⟨g1, 0, none⟩) x.els.length c1) (.slice (some ⟨g2, 0, none⟩) x.lims.length c2) (.int .i64 x.rep) (.int .i64 x.bon) (.int .i64 x.kee) (.int .i64 x.fal) := by rw [hW]; exact cdMem_new w4 _ _ rfl _ _ _ _ _ _
        have HY5 := Lib.hid hYm
        have HY6 := Lib.hid (hYm.below hb6 (by rw [hB5.size]; omega))
        have hins := insert_any w3.heap.size g1 c1 r x.els.length w5.heap.size 1 x.els y w6 HR6.out HIN.out.le HL.out.1.1 HV6.out HP6.out (by have := HS6.out; omega) (by omega) (by have := HS6.out; omega)
        rw [hB5.size] at hins
        have HINS := Lib.hid hins
        clear hins
        clear hb ho hi' h1 h2 h3 hB5 hb5 hb6 hb36 hYm hs6
        obtain ⟨y0, y1, y2, y3, y4, y5, yf⟩ := HY5.out
        obtain ⟨e0, e1, e2, e3⟩ := HE5.out.at_
        simp only [Nat.zero_add] at e1 e2 e3
        rw [hW] at e0 e1 e2 e3
        go_wp2_with fail
        rw [← hW, ← hW6]
        clear hW hW6 y0 y1 y2 y3 y4 y5 yf e0 e1 e2 e3
        refine HINS.out.mono ?_
        rintro e w7 ⟨g7, c7, rfl, ho, hk, hg, hgl⟩
        have HS7 := Lib.hid (show (g7 = g1 ∨ g7 = w6.heap.size) ∧ g7 < w7.heap.size ∧ w6.heap.size ≤ w7.heap.size from ⟨hg, hgl, hk.size⟩)
        have HM7 := Lib.hid (HM6.out.only hk (by have := HS6.out; omega) (by have := HS6.out; omega))
        have HY7 := Lib.hid (HY6.out.only hk (by have := HS6.out; omega) (by have := HS6.out; omega))
        have HI7 := Lib.hid (HI6.out.block (hk.block g2 (by have := HS6.out; omega) (by have := HS6.out; omega)))
        have HB7 := Lib.hid (HB6.out.trans (hk.below HB6.out.size (fun k e => by have := HS6.out; omega)))
        have HT7 := Lib.hid (HT6.out.only hk (by have := HT2.out.lt; have := HS6.out; have := HB2.out.size; have := HS23.out; omega))
        have HO7 := Lib.hid ho
        clear ho hk hg hgl
        obtain ⟨y0, y1, y2, y3, y4, y5, yf⟩ := HY7.out
        obtain ⟨w8, hw8⟩ : ∃ w8, w8 = w7.setCell ⟨w4.heap.size, 0, none⟩ (.slice (some ⟨g7, 0, none⟩) (x.els.length + 1) c7) := ⟨_, rfl⟩
        have hk8 : Only (fun k => k = w4.heap.size) w7 w8 := by rw [hw8]; exact (Only.refl (fun k => k = w4.heap.size) w7).put w4.heap.size 0 rfl _
        have HQ := Lib.hid (show (w3.heap.size ≤ g1 ∧ g1 < w4.heap.size ∧ w6.heap.size = w4.heap.size + 2 ∧ w3.heap.size ≤ g2 ∧ g2 < w4.heap.size ∧ g1 ≠ g2 ∧ w.heap.size + 3 ≤ w3.heap.size) ∧ (g7 = g1 ∨ g7 = w6.heap.size) ∧ g7 < w7.heap.size ∧ w6.heap.size ≤ w7.heap.size ∧ w7.heap.size ≤ w8.heap.size by have h1 := HS6.out; have h2 := HS7.out; exact ⟨⟨h1.1, h1.2.1, h1.2.2.2.1, h1.2.2.2.2.1, h1.2.2.2.2.2.1, h1.2.2.2.2.2.2.1, h1.2.2.2.2.2.2.2⟩, h2.1, h2.2.1, h2.2.2, hk8.size⟩)
        have HY8 : Hid (CdMem w8 w4.heap.size (.slice (some ⟨g7, 0, none⟩) (x.els.length + 1) c7) (.slice (some ⟨g2, 0, none⟩) x.lims.length c2) (.int .i64 x.rep) (.int .i64 x.bon) (.int .i64 x.kee) (.int .i64 x.fal)) := Lib.hid (by rw [hw8]; exact HY7.out.set0 _)
        have HM8 := Lib.hid (HM7.out.only hk8 (by have := HQ.out; omega) (by have := HQ.out; omega))
        have HO8 := Lib.hid (HO7.out.block (hk8.block g7 (by have := HQ.out; omega) (by have := HQ.out; omega)))
        have HI8 := Lib.hid (HI7.out.block (hk8.block g2 (by have := HQ.out; omega) (by have := HQ.out; omega)))
        have HB8 := Lib.hid (HB7.out.trans (hk8.below HB7.out.size (fun k e => by have := HQ.out; omega)))
        have HT8 := Lib.hid (HT7.out.only hk8 (by have := HQ.out; have := HT2.out.lt; have := HS23.out; omega))
        have HLEN := Lib.hid (show (adCd x y r).els.length = x.els.length + 1 from insEl_len _ _ _ HIN.out.le)
        clear hk8
        have hat : CdAt w8 (some ⟨g7, 0, none⟩) (some ⟨g2, 0, none⟩) (adCd x y r) := ⟨fun _ => ⟨g7, 0, rfl, by have := HQ.out; omega, HO8.out.cell⟩, fun _ => ⟨g2, 0, rfl, by have := HQ.out; omega, HI8.out.cell⟩⟩
        have hcall := iIfValid_any (some ⟨g7, 0, none⟩) (some ⟨g2, 0, none⟩) c7 c2 (adCd x y r) w8 hat (adCd_fits HOK.out HY.out HIN.out.le) HT8.out
        unfold Cd.val at hcall
        rw [HLEN.out] at hcall
        have HCALL := Lib.hid hcall
        clear hcall hat
        go_wp2_with fail
        rw [← hw8]
        clear hw8 y0 y1 y2 y3 y4 y5 yf
        refine HCALL.out.mono ?_
        rintro e w9 ⟨hy, hn, hb⟩
        have HM9 := Lib.hid (HM8.out.below hb (by have := HQ.out; omega))
        have HO9 := Lib.hid (HO8.out.block (hb.block g7 (by have := HQ.out; omega)))
        have HI9 := Lib.hid (HI8.out.block (hb.block g2 (by have := HQ.out; omega)))
        have HB9 := Lib.hid (Below_next HB8.out hb)
        have HS9 := Lib.hid hb.size
        clear hb
        obtain ⟨m0, m1, m2, m3, m4, m5, mf⟩ := HM9.out
        by_cases hR : CdOk (adCd x y r)
        · have HRR := Lib.hid (show AdOk x y r from ⟨HOK.out, hR⟩)
          have he := hy hR
          clear hy hn hR
          subst he
          go_wp2
          refine stop_body ⟨?_⟩
          intro wz hwz
          have hmz := HM9.out.all (.slice (some ⟨g7, 0, none⟩) (x.els.length + 1) c7) (.slice (some ⟨g2, 0, none⟩) x.lims.length c2) (.int .i64 x.rep) (.int .i64 x.bon) (.int .i64 x.kee) (.int .i64 x.fal)
          have hkz := only_six w9 (w.heap.size + 1 + 1) (.slice (some ⟨g7, 0, none⟩) (x.els.length + 1) c7) (.slice (some ⟨g2, 0, none⟩) x.lims.length c2) (.int .i64 x.rep) (.int .i64 x.bon) (.int .i64 x.kee) (.int .i64 x.fal)
          rw [show put6 w9 (w.heap.size + 1 + 1) (.slice (some ⟨g7, 0, none⟩) (x.els.length + 1) c7) (.slice (some ⟨g2, 0, none⟩) x.lims.length c2) (.int .i64 x.rep) (.int .i64 x.bon) (.int .i64 x.kee) (.int .i64 x.fal) = wz from hwz.symm] at hmz hkz
          have HKZ := Lib.hid hkz
          clear hwz hkz m0 m1 m2 m3 m4 m5 mf
          obtain ⟨m0, m1, m2, m3, m4, m5, mf⟩ := hmz
          refine bodyPost_ret (v := .tuple #[.agg #[.slice (some ⟨g7, 0, none⟩) (x.els.length + 1) c7, .slice (some ⟨g2, 0, none⟩) x.lims.length c2, .int .i64 x.rep, .int .i64 x.bon, .int .i64 x.kee, .int .i64 x.fal], .bool true]) (by simp [results, Tryd.results32, go_sem, m0, m1, m2, m3, m4, m5]) rfl ?_
          refine ⟨⟨some ⟨g7, 0, none⟩, c7, some ⟨g2, 0, none⟩, c2, g7, g2, ?_, ?_, by have := HQ.out; omega, ?_, ?_⟩, HB9.out.trans (HKZ.out.below HB9.out.size (fun k hk => by omega))⟩
          · rw [adR_yes HRR.out, pB_yes HRR.out]
            show _ = Ending.returned (.tuple #[.agg #[.slice (some ⟨g7, 0, none⟩) (adCd x y r).els.length c7, _, _, _, _, _], _])
            rw [HLEN.out]
            rfl
          · rw [adR_yes HRR.out]
            exact ⟨fun _ => ⟨g7, 0, rfl, rfl, by have := HQ.out; have := HS9.out; have := HKZ.out.size; omega, HO9.out.block (HKZ.out.block g7 (by have := HQ.out; have := HS9.out; omega) (by have := HQ.out; omega))⟩, fun _ => ⟨g2, 0, rfl, rfl, by have := HQ.out; have := HS9.out; have := HKZ.out.size; omega, HI9.out.block (HKZ.out.block g2 (by have := HQ.out; have := HS9.out; omega) (by have := HQ.out; omega))⟩⟩
          · have := HQ.out; have := HS9.out; have := HKZ.out.size; omega
          · have := HQ.out; have := HS9.out; have := HKZ.out.size; omega
        · have HRR := Lib.hid (fun h : AdOk x y r => hR h.2)
          have he := hn hR
          clear hy hn hR
          subst he
          unfold Cd.zero
          go_wp2
          refine stop_body ⟨?_⟩
          intro wz hwz
          have hmz := HM9.out.all (.slice none 0 0) (.slice none 0 0) (.int .i64 0) (.int .i64 0) (.int .i64 0) (.int .i64 0)
          have hkz := only_six w9 (w.heap.size + 1 + 1) (.slice none 0 0) (.slice none 0 0) (.int .i64 0) (.int .i64 0) (.int .i64 0) (.int .i64 0)
          rw [show put6 w9 (w.heap.size + 1 + 1) (.slice none 0 0) (.slice none 0 0) (.int .i64 0) (.int .i64 0) (.int .i64 0) (.int .i64 0) = wz from hwz.symm] at hmz hkz
          have HKZ := Lib.hid hkz
          clear hwz hkz m0 m1 m2 m3 m4 m5 mf
          obtain ⟨m0, m1, m2, m3, m4, m5, mf⟩ := hmz
          refine bodyPost_ret (v := .tuple #[.agg #[.slice none 0 0, .slice none 0 0, .int .i64 0, .int .i64 0, .int .i64 0, .int .i64 0], .bool false]) (by simp [results, Tryd.results32, go_sem, m0, m1, m2, m3, m4, m5]) rfl ?_
          exact codeAns_no HRR.out (adR_no HRR.out) rfl (by have := HQ.out; have := HS9.out; have := HKZ.out.size; omega) (HB9.out.trans (HKZ.out.below HB9.out.size (fun k hk => by omega)))
  · rw [pB_no hok] at he
    subst he
    have HRR := Lib.hid (fun h : AdOk x y r => hok h.1)
    clear hok
    obtain ⟨m0, m1, m2, m3, m4, m5, mf⟩ := HM2.out
    go_wp2
    refine stop_body ⟨?_⟩
    intro wz hwz
    have hmz := HM2.out.all (.slice none 0 0) (.slice none 0 0) (.int .i64 0) (.int .i64 0) (.int .i64 0) (.int .i64 0)
    have hkz := only_six w2 (w.heap.size + 1 + 1) (.slice none 0 0) (.slice none 0 0) (.int .i64 0) (.int .i64 0) (.int .i64 0) (.int .i64 0)
    rw [show put6 w2 (w.heap.size + 1 + 1) (.slice none 0 0) (.slice none 0 0) (.int .i64 0) (.int .i64 0) (.int .i64 0) (.int .i64 0) = wz from hwz.symm] at hmz hkz
    have HKZ := Lib.hid hkz
    clear hwz hkz m0 m1 m2 m3 m4 m5 mf
    obtain ⟨m0, m1, m2, m3, m4, m5, mf⟩ := hmz
    refine bodyPost_ret (v := .tuple #[.agg #[.slice none 0 0, .slice none 0 0, .int .i64 0, .int .i64 0, .int .i64 0, .int .i64 0], .bool false]) (by simp [results, Tryd.results32, go_sem, m0, m1, m2, m3, m4, m5]) rfl ?_
    exact codeAns_no HRR.out (adR_no HRR.out) rfl (by have := HS2.out; have := HKZ.out.size; omega) (HB2.out.trans (HKZ.out.below HB2.out.size (fun k hk => by omega)))

end Go.Proofs.YtmncigeelfappaaDoor
