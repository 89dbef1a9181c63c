/- Answers that are codes; a scaled code, in the model and in the program. -/
import Derived.Test.YtmncigeelfappaaDoorCdD
namespace Go.Proofs.YtmncigeelfappaaDoor
open Go.ChangeShapes Go.WideShapes Go.ChangeAt Go.RowKit Go.PlainAid Go.Sort
set_option linter.unusedVariables false

/-- A call's answer: a code in memory of its own, and a bool. -/
structure CodeAns (w : World) (R : Cd) (q : Prop) (e : Ending) (w' : World) : Prop where
  ans : ∃ A c L d g1 g2, e = .returned (.tuple #[R.val A c L d, .bool (pB q)]) ∧ CdOwn w' g1 g2 A L R ∧ g1 ≠ g2 ∧ (w.heap.size ≤ g1 ∧ g1 < w'.heap.size) ∧ (w.heap.size ≤ g2 ∧ g2 < w'.heap.size)
  below : Below w.heap.size w w'
theorem codeAns_no {w w' : World} {R : Cd} {q : Prop} {e : Ending} (hq : ¬ q) (hR : R = Cd.zero) (he : e = .returned (.tuple #[.agg #[.slice none 0 0, .slice none 0 0, .int .i64 0, .int .i64 0, .int .i64 0, .int .i64 0], .bool false])) (hs : w.heap.size + 2 ≤ w'.heap.size) (hb : Below w.heap.size w w') : CodeAns w R q e w' := by
  subst hR
  exact ⟨⟨none, 0, none, 0, w.heap.size, w.heap.size + 1, by rw [he, pB_no hq]; rfl, ⟨Owned.nil _ _ _, Owned.nil _ _ _⟩, by omega, by omega, by omega⟩, hb⟩
theorem OwnAt.put1 {α : Type} [Flat α] {w : World} {g o : Nat} {xs : List α} (h : OwnAt w g o xs) (k j : Nat) (x : α) (v : Value) (hk : k < xs.length) (hj : j < Flat.sz α) (hv : (Flat.cells x)[j]? = some v) (hx : ∀ i, i ≠ j → (Flat.cells x)[i]? = (Flat.cells (it xs k))[i]?) :
    OwnAt (w.setCell ⟨g, o + k * Flat.sz α + j, none⟩ v) g o (xs.set k x) := by
  refine ⟨fun i hi => ?_, fun i m hi hm => ?_⟩
  · rw [List.length_set] at hi
    rw [it_set xs k i x hk]
    by_cases e : i = k
    · subst e
      rw [if_pos rfl]
      intro m u hu
      by_cases em : m = j
      · subst em
        rw [hv] at hu
        rw [← Option.some.inj hu]
        have hl : m < (Flat.cells (it xs i)).length := by rw [Flat.len]; exact hj
        exact World.cell?_setCell_same w ⟨g, o + i * Flat.sz α + m, none⟩ _ (h.cell i hk m _ (List.getElem?_eq_getElem hl))
      · rw [World.cell?_setCell_other w _ _ _ (fun he => by
          have := congrArg Addr.off he
          simp only at this
          omega)]
        exact h.cell i hk m u (by rw [← hx m em]; exact hu)
    · rw [if_neg e]
      intro m u hu
      have hm : m < Flat.sz α := by
        have := (List.getElem?_eq_some_iff.1 hu).1
        rwa [Flat.len] at this
      rw [World.cell?_setCell_other w _ _ _ (fun he => by
        have h1 := congrArg Addr.off he
        simp only at h1
        rcases Nat.lt_or_gt_of_ne e with hlt | hgt
        · have := Nat.mul_le_mul_right (Flat.sz α) (show i + 1 ≤ k from hlt)
          rw [Nat.succ_mul] at this
          omega
        · have := Nat.mul_le_mul_right (Flat.sz α) (show k + 1 ≤ i from hgt)
          rw [Nat.succ_mul] at this
          omega)]
      exact h.cell i hi m u hu
  · rw [List.length_set] at hi
    rw [World.frozen?_setCell]
    exact h.free i m hi hm
theorem CellsAt.only {S : Nat → Prop} {w w' : World} {b o : Nat} {vs : List Value} (h : CellsAt w b o vs) (k : Only S w w') (hb : b < w.heap.size) (hs : ¬ S b) : CellsAt w' b o vs :=
  fun j v hj => (World.cell?_of_block (a := ⟨b, o + j, none⟩) (k.block b hb hs)).trans (h j v hj)
theorem BoxAt.only {S : Nat → Prop} {w w' : World} {b : Nat} {A L : Option Addr} {c d : Nat} {x : Cd} (h : BoxAt w b A c L d x) (k : Only S w w') (hs : ¬ S b) : BoxAt w' b A c L d x := by
  have hb := k.block b h.lt hs
  exact ⟨Nat.lt_of_lt_of_le h.lt k.size, (World.cell?_of_block (a := ⟨b, 0, none⟩) hb).trans h.box.c0, (World.cell?_of_block (a := ⟨b, 1, none⟩) hb).trans h.box.c1, (World.cell?_of_block (a := ⟨b, 2, none⟩) hb).trans h.box.c2, (World.cell?_of_block (a := ⟨b, 3, none⟩) hb).trans h.box.c3, (World.cell?_of_block (a := ⟨b, 4, none⟩) hb).trans h.box.c4, (World.cell?_of_block (a := ⟨b, 5, none⟩) hb).trans h.box.c5⟩
theorem CdMem.only {S : Nat → Prop} {w w' : World} {b : Nat} {v0 v1 v2 v3 v4 v5 : Value} (h : CdMem w b v0 v1 v2 v3 v4 v5) (k : Only S w w') (hl : b < w.heap.size) (hs : ¬ S b) : CdMem w' b v0 v1 v2 v3 v4 v5 := by
  have hb := k.block b hl hs
  exact ⟨(World.cell?_of_block (a := ⟨b, 0, none⟩) hb).trans h.c0, (World.cell?_of_block (a := ⟨b, 1, none⟩) hb).trans h.c1, (World.cell?_of_block (a := ⟨b, 2, none⟩) hb).trans h.c2, (World.cell?_of_block (a := ⟨b, 3, none⟩) hb).trans h.c3, (World.cell?_of_block (a := ⟨b, 4, none⟩) hb).trans h.c4, (World.cell?_of_block (a := ⟨b, 5, none⟩) hb).trans h.c5, fun j => (World.frozen?_of_block (a := ⟨b, j, none⟩) hb).trans (h.fr j)⟩
theorem CdNew.box {w : World} {B g1 g2 : Nat} {x : Cd} (h : CdNew w B g1 g2 x) (o : Obj) : CdNew (w.alloc o) B g1 g2 x :=
  ⟨h.els.next h.lt1 (below_alloc _ _), h.lims.next h.lt2 (below_alloc _ _), h.le1, h.le2, by have := h.lt1; simp; omega, by have := h.lt2; simp; omega, h.ne⟩

def scEl (p : Int) (x : El) : El := { x with base := max 1 (x.base * p / 100) }
def scTo (xs : List El) (p : Int) : Nat → List El
  | 0 => xs
  | k + 1 => (scTo xs p k).set k (scEl p (it xs k))
theorem scTo_len (xs : List El) (p : Int) : ∀ k, (scTo xs p k).length = xs.length
  | 0 => rfl
  | k + 1 => by
    show ((scTo xs p k).set k _).length = _
    rw [List.length_set]
    exact scTo_len xs p k
theorem scTo_ge (xs : List El) (p : Int) : ∀ k j, k ≤ xs.length → k ≤ j → it (scTo xs p k) j = it xs j
  | 0, _, _, _ => rfl
  | k + 1, j, hk, hj => by
    show it ((scTo xs p k).set k _) j = _
    rw [it_set _ _ _ _ (by rw [scTo_len]; omega), if_neg (by omega)]
    exact scTo_ge xs p k j (by omega) (by omega)
def scCd (x : Cd) (p : Int) : Cd := { x with els := scTo x.els p x.els.length }
theorem zero_fits : CdFits Cd.zero := ⟨⟨by decide, fun i hi => absurd hi (Nat.not_lt_zero _)⟩, by decide⟩
def ScOk (x : Cd) (p : Int) : Prop := CdOk x ∧ (1 ≤ p ∧ p ≤ 200) ∧ CdOk (scCd x p)
noncomputable def scR (x : Cd) (p : Int) : Cd := @ite _ (ScOk x p) (Classical.propDecidable _) (scCd x p) Cd.zero
theorem scR_yes {x : Cd} {p : Int} (h : ScOk x p) : scR x p = scCd x p := by unfold scR; exact @if_pos _ (Classical.propDecidable _) h _ _ _
theorem scR_no {x : Cd} {p : Int} (h : ¬ ScOk x p) : scR x p = Cd.zero := by unfold scR; exact @if_neg _ (Classical.propDecidable _) h _ _ _
theorem scCd_fits {x : Cd} {p : Int} (h : CdOk x) : CdFits (scCd x p) := by
  have main : ∀ k, k ≤ x.els.length → ∀ i, i < x.els.length → (it (scTo x.els p k) i).name.size ≤ 1048576 := by
    intro k
    induction k with
    | zero => exact fun _ i hi => El.fit (h.els.el i hi)
    | succ k ih =>
      intro hk i hi
      show (it ((scTo x.els p k).set k _) i).name.size ≤ _
      rw [it_set _ _ _ _ (by rw [scTo_len]; omega)]
      split
      · show (it x.els k).name.size ≤ _
        exact El.fit (h.els.el k (by omega))
      · exact ih (by omega) i hi
  refine ⟨⟨?_, fun i hi => ?_⟩, ?_⟩
  · show (scTo x.els p x.els.length).length ≤ _
    rw [scTo_len]
    have := h.els.hi
    omega
  · have hi' : i < x.els.length := by
      have : (scTo x.els p x.els.length).length = x.els.length := scTo_len _ _ _
      exact this ▸ hi
    exact main _ (Nat.le_refl _) i hi'
  · have := h.lims.len
    show x.lims.length ≤ _
    omega

theorem scR_fits (x : Cd) (p : Int) : CdFits (scR x p) := by
  by_cases h : ScOk x p
  · rw [scR_yes h]
    exact Cd.fit h.2.2
  · rw [scR_no h]
    exact zero_fits

theorem Lst.el' {w : World} {B : Nat} {A : Option Addr} {xs : List El} (h : Lst w B A xs) (hp : 0 < xs.length) : ∃ b o, A = some ⟨b, o, none⟩ ∧ b < B ∧ ∀ i, i < xs.length → CellsAt w b (o + i * 4) (Flat.cells (it xs i)) := h hp
theorem Tab.only {S : Nat → Prop} {w w' : World} (h : Tab w) (k : Only S w w') (hs : ¬ S 0) : Tab w' := by
  refine ⟨Nat.lt_of_lt_of_le h.lt k.size, ?_⟩
  have hb := k.block _ h.lt hs
  have hv := h.var
  unfold World.var? at hv ⊢
  simp only [gBound, Option.bind_some] at hv ⊢
  rw [hb]
  exact hv
theorem iCopyN_any (A L : Option Addr) (c d : Nat) (x : Cd) (w : World) (hr : CdAt w A L x) (hok : CdOk x) :
    Calls Tryd.prog 55 #[x.val A c L d] w fun e w' => ∃ g1 c1 g2 c2, e = .returned (x.val (some ⟨g1, 0, none⟩) c1 (some ⟨g2, 0, none⟩) c2) ∧ CdNew w' w.heap.size g1 g2 x ∧ Below w.heap.size w w' :=
  (iCopy_any A L c d x w hr hok).mono fun e w' ⟨g1, c1, g2, c2, he, ho, hi, h1, h2, h3, hb⟩ => ⟨g1, c1, g2, c2, he, ⟨ho.own, hi, ho.le, h1, ho.lt, h2, h3⟩, hb⟩

set_option maxHeartbeats 2000000 in
theorem sScale_any (A L : Option Addr) (c d : Nat) (x : Cd) (p : Int) (w : World) (hr : CdAt w A L x) (hl : CdFits x) :
    Calls Tryd.prog 36 #[x.val A c L d, .int .i64 p] w (CodeAns w (scR x p) (ScOk x p)) := by
  have HR := Lib.hid hr
  have HL := Lib.hid hl
  clear hr hl
  unfold Cd.val
  go_enter Tryd.func36, Tryd.ntmps36
  go_wp2_with fail
  generalize hW : World.alloc (World.alloc w _) _ = W
  have hB : Below w.heap.size w W := by
    rw [← hW]
    go_grown
  have hS : W.heap.size = w.heap.size + 2 := by rw [← hW]; simp
  have hX : BoxAt W w.heap.size A c L d x := ⟨by omega, by
    rw [← hW]
    exact (cdBox_new w _ _ rfl A c L d x).below ((Below.refl _ _).alloc (Nat.le_refl _) _) (by simp)⟩
  have hM : CdMem W (w.heap.size + 1) (.slice none 0 0) (.slice none 0 0) (.int .i64 0) (.int .i64 0) (.int .i64 0) (.int .i64 0) := by
    rw [← hW]
    exact cdMem_new _ _ _ (by simp) _ _ _ _ _ _
  clear hW
  refine (cdGood_any A L c d x W (HR.out.below hB) HL.out).mono ?_
  rintro e w2 ⟨he, hb⟩
  have HM2 := Lib.hid (hM.below hb (by omega))
  have HX2 := Lib.hid (hX.next hb)
  have HR2 := Lib.hid ((HR.out.below hB).below hb)
  have HB2 := Lib.hid (Below_next hB hb)
  have HS2 := Lib.hid (show w.heap.size + 2 ≤ w2.heap.size by rw [← hS]; exact hb.size)
  clear hB hb hX hM hS
  by_cases hok : CdOk x
  · rw [pB_yes hok] at he
    subst he
    by_cases hp : 1 ≤ p ∧ p ≤ 200
    · have HOK := Lib.hid hok
      have HP := Lib.hid hp
      obtain ⟨p1, p2⟩ := hp
      clear hok
      obtain ⟨x0, x1, x2, x3, x4, x5⟩ := HX2.out.box
      go_wp2_with (go_at_call 60; refine (l1In_yes _ _ _ _ (by omega) (by omega)).mono ?_; rintro e w' ⟨rfl, rfl⟩)
      clear x0 x1 x2 x3 x4 x5
      refine (sOwn_any A L c d x w2 HR2.out HOK.out).mono ?_
      rintro e w3 ⟨g1, c1, g2, c2, rfl, hn, hb⟩
      obtain ⟨w4, hW, hB4⟩ := boxed 30 w3 (some ⟨g1, 0, none⟩) c1 (some ⟨g2, 0, none⟩) c2 x
      have hb4 := Below_next hb hB4.below
      have HM4 := Lib.hid (HM2.out.below hb4 (Nat.lt_of_lt_of_le (by omega) HS2.out))
      have HX4 := Lib.hid (HX2.out.next hb4)
      have HR4 := Lib.hid (HR2.out.below hb4)
      have HB4 := Lib.hid (Below_next HB2.out hb4)
      have HY4 := Lib.hid hB4.at_
      have hN4 : CdNew w4 w2.heap.size g1 g2 x := by rw [hW]; exact hn.box _
      have HN4 := Lib.hid hN4
      have HE4 := Lib.hid hN4.els
      have HS4 := Lib.hid (show w2.heap.size ≤ g1 ∧ g1 < w3.heap.size ∧ w3.heap.size < w4.heap.size ∧ w2.heap.size ≤ g2 ∧ g2 < w4.heap.size ∧ g1 ≠ g2 from ⟨hn.le1, hn.lt1, hB4.lt, hN4.le2, hN4.lt2, hn.ne⟩)
      have hq2 : Hid (w.heap.size + 2 ≤ w2.heap.size) := HS2
      have HX3 := Lib.hid (HX2.out.next hb)
      unfold boxCd at hW
      have HW := Lib.hid hW
      obtain ⟨x0, x1, x2, x3, x4, x5⟩ := HX3.out.box
      have hll : x.els.length ≤ 1048576 := HL.out.1.1
      have hn3 := HX3.out.lt
      clear hb hn hB4 hb4 hN4 hW
      go_wp2
      clear x0 x1 x2 x3 x4 x5
      go_loopw [23] (fun i wr => ∃ k : Nat, k ≤ x.els.length ∧ i = .int .i64 k ∧ Hid (OwnAt wr g1 0 (scTo x.els p k)) ∧ Hid (Only (fun i => i = g1) w4 wr)) (fun i _ => x.els.length - (intOf i).toNat)
      case atStart => exact ⟨0, Nat.zero_le _, rfl, by rw [← HW.out]; exact HE4, Lib.hid (by rw [← HW.out]; exact Only.refl _ _)⟩
      case round =>
        obtain ⟨k, hk, rfl, HO, HK⟩ := hrel
        have HN0 := Lib.hid (show ¬ w.heap.size = g1 ∧ ¬ w.heap.size + 1 = g1 ∧ ¬ w3.heap.size = g1 by have := HS4.out; have := hq2.out; omega)
        have HY := Lib.hid (HY4.out.only HK.out HN0.out.2.2)
        by_cases hlt : k < x.els.length
        · obtain ⟨b, o, rfl, hbl, hc⟩ := HR.out.els.el' (by omega)
          have hbg : ¬ b = g1 := by have := HS4.out; have := hq2.out; omega
          have hb4s : b < w4.heap.size := by have := HS4.out; have := hq2.out; omega
          obtain ⟨e0, e1, e2, e3⟩ := elAt (((hc k hlt).below HB4.out hbl).only HK.out hb4s hbg)
          have y0 := HY.out.box.c0
          have hbs := (HOK.out.els.el k hlt).base
          have hm0 : 0 ≤ (it x.els k).base * p := Int.mul_nonneg (by omega) (by omega)
          have hm1 : (it x.els k).base * p ≤ 2000 * 200 := Int.mul_le_mul hbs.2 p2 (by omega) (by omega)
          have m4 : IntKind.i64.wrap ((it x.els k).base * p) = (it x.els k).base * p := IntWalk.i64_in _ (by omega)
          have m5 : ((it x.els k).base * p).tdiv 100 = (it x.els k).base * p / 100 := Int.tdiv_eq_ediv_of_nonneg hm0
          have hm2 : (it x.els k).base * p / 100 ≤ 4000 := by omega
          have hm3 : 0 ≤ (it x.els k).base * p / 100 := by omega
          have HLT := Lib.hid (show g1 < wr.heap.size from Nat.lt_of_lt_of_le (by have := HS4.out; omega) HK.out.size)
          have HN2 := Lib.hid (show w3.heap.size < wr.heap.size from Nat.lt_of_lt_of_le HS4.out.2.2.1 HK.out.size)
          have k0 : (0 : Int) ≤ (k : Int) := by omega
          have k1 : (k : Int) < (x.els.length : Int) := by omega
          have bs : b < wr.heap.size := Nat.lt_of_lt_of_le hb4s HK.out.size
          clear hc hbs hbg hb4s hm0 hm1
          go_wp2
          refine stop_end 7 ⟨?_⟩
          intro w7 hw7
          have hb7 : Below wr.heap.size wr w7 := by rw [hw7]; exact below_alloc _ _
          have E3 : w7.cell? ⟨wr.heap.size, 3, none⟩ = some (.int .i64 (it x.els k).base) := by rw [hw7]; simp
          have Y0 : w7.cell? ⟨w3.heap.size, 0, none⟩ = some (.slice (some ⟨g1, 0, none⟩) x.els.length c1) := (hb7.cell (p := ⟨w3.heap.size, 0, none⟩) HN2.out).trans y0
          have HO7 := Lib.hid (HO.out.block (hb7.block g1 HLT.out))
          have HK7 := Lib.hid (HK.out.trans (Only.of_below hb7 (Nat.le_refl _)))
          have HPUT := Lib.hid (show OwnAt (w7.setCell ⟨g1, k * 4 + 3, none⟩ (.int .i64 (max 1 ((it x.els k).base * p / 100)))) g1 0 (scTo x.els p (k + 1)) by
            have := HO7.out.put1 k 3 (scEl p (it x.els k)) (.int .i64 (max 1 ((it x.els k).base * p / 100))) (by rw [scTo_len]; exact hlt) (by decide) (by show some (Value.int .i64 (max 1 ((it x.els k).base * p / 100))) = some (Value.int .i64 (max 1 ((it x.els k).base * p / 100))); rfl) (fun i hi => by
              rw [scTo_ge _ _ _ _ hk (Nat.le_refl _)]
              match i, hi with
              | 0, _ => rfl
              | 1, _ => rfl
              | 2, _ => rfl
              | i + 4, _ => rfl)
            rwa [show 0 + k * Flat.sz El + 3 = k * 4 + 3 by show 0 + k * 4 + 3 = _; omega] at this)
          have HKP := Lib.hid (HK7.out.put g1 (k * 4 + 3) rfl (.int .i64 (max 1 ((it x.els k).base * p / 100))))
          obtain ⟨⟨_, _, _, D3⟩, _, _, _, F3⟩ := HO7.out.el0 k (by rw [scTo_len]; exact hlt)
          have ne1 : ((⟨g1, k * 4 + 3, none⟩ : Addr)).block ≠ (⟨w3.heap.size, 0, none⟩ : Addr).block := by have := HS4.out; simp only; omega
          have ne2 : ((⟨g1, k * 4 + 3, none⟩ : Addr)).block ≠ (⟨wr.heap.size, 3, none⟩ : Addr).block := by have := HLT.out; simp only; omega
          have HE1 := Lib.hid ne1
          have HE2 := Lib.hid ne2
          clear hw7 hb7 e0 e1 e2 e3 y0 ne1 ne2
          go_region_held3 (fun w' => w'.cell? ⟨w3.heap.size, 0, none⟩ = some (.slice (some ⟨g1, 0, none⟩) x.els.length c1) ∧ w'.cell? ⟨wr.heap.size, 3, none⟩ = some (.int .i64 (it x.els k).base))
            (first | exact ⟨Y0, E3⟩ | exact ⟨(World.cell?_setCell_far w7 ⟨g1, k * 4 + 3, none⟩ _ _ HE1.out).trans Y0, (World.cell?_setCell_far w7 ⟨g1, k * 4 + 3, none⟩ _ _ HE2.out).trans E3⟩)
            (first | (go_at_call 52; refine (l1Most_any _ _ _).mono ?_; rintro e w' ⟨rfl, rfl⟩) | fail)
          go_wp2
          go_roundw
          case rel => exact ⟨k + 1, by omega, by go_num, Lib.hid (HPUT.out.block rfl), Lib.hid (HKP.out.trans (Only.of_below (below_drewn _) (Nat.le_refl _)))⟩
          case measure => simp [intOf]; omega
        · obtain rfl : k = x.els.length := by omega
          have HMW := Lib.hid (HM4.out.only HK.out (by have := HS4.out; have := hq2.out; omega) HN0.out.2.1)
          have HIW := Lib.hid (HN4.out.lims.block (HK.out.block g2 HS4.out.2.2.2.2.1 (by have := HS4.out; omega)))
          have HBW := Lib.hid (HB4.out.trans (HK.out.below HB4.out.size (fun i hi => by have := HS4.out; have := hq2.out; omega)))
          have HSW := Lib.hid HK.out.size
          have hRl : (scCd x p).els.length = x.els.length := scTo_len _ _ _
          have hat : CdAt wr (some ⟨g1, 0, none⟩) (some ⟨g2, 0, none⟩) (scCd x p) := ⟨fun _ => ⟨g1, 0, rfl, Nat.lt_of_lt_of_le (by have := HS4.out; omega) HSW.out, HO.out.cell⟩, fun _ => ⟨g2, 0, rfl, Nat.lt_of_lt_of_le HS4.out.2.2.2.2.1 HSW.out, HIW.out.cell⟩⟩
          have hcall := sIf_any (some ⟨g1, 0, none⟩) (some ⟨g2, 0, none⟩) c1 c2 (scCd x p) wr hat (scCd_fits HOK.out)
          unfold Cd.val at hcall
          rw [hRl] at hcall
          have HCALL := Lib.hid hcall
          clear hcall hat hRl
          obtain ⟨y0, y1, y2, y3, y4, y5⟩ := HY.out.box
          go_wp2_with fail
          clear y0 y1 y2 y3 y4 y5
          refine HCALL.out.mono ?_
          rintro e w6 ⟨hy, hn, hb⟩
          have HM6 := Lib.hid (HMW.out.below hb (Nat.lt_of_lt_of_le (by have := HS4.out; have := hq2.out; omega) HSW.out))
          have HO6 := Lib.hid (HO.out.block (hb.block g1 (Nat.lt_of_lt_of_le (by have := HS4.out; omega) HSW.out)))
          have HI6 := Lib.hid (HIW.out.block (hb.block g2 (Nat.lt_of_lt_of_le HS4.out.2.2.2.2.1 HSW.out)))
          have HB6 := Lib.hid (Below_next HBW.out hb)
          have HS6 := Lib.hid (Nat.le_trans HSW.out hb.size)
          clear hb
          obtain ⟨m0, m1, m2, m3, m4, m5, mf⟩ := HM6.out
          by_cases hR : CdOk (scCd x p)
          · have HRR := Lib.hid (show ScOk x p from ⟨HOK.out, HP.out, hR⟩)
            have he := hy hR
            clear hy hn hR
            subst he
            go_wp2
            refine stop_body ⟨?_⟩
            intro w8 hw8
            have hm8 := HM6.out.all (.slice (some ⟨g1, 0, none⟩) x.els.length c1) (.slice (some ⟨g2, 0, none⟩) x.lims.length c2) (.int .i64 x.rep) (.int .i64 x.bon) (.int .i64 x.kee) (.int .i64 x.fal)
            have hk8 := only_six w6 (w.heap.size + 1) (.slice (some ⟨g1, 0, none⟩) x.els.length c1) (.slice (some ⟨g2, 0, none⟩) x.lims.length c2) (.int .i64 x.rep) (.int .i64 x.bon) (.int .i64 x.kee) (.int .i64 x.fal)
            rw [show put6 w6 (w.heap.size + 1) (.slice (some ⟨g1, 0, none⟩) x.els.length c1) (.slice (some ⟨g2, 0, none⟩) x.lims.length c2) (.int .i64 x.rep) (.int .i64 x.bon) (.int .i64 x.kee) (.int .i64 x.fal) = w8 from hw8.symm] at hm8 hk8
            have HK8 := Lib.hid hk8
            clear hw8 hk8 m0 m1 m2 m3 m4 m5 mf
            obtain ⟨m0, m1, m2, m3, m4, m5, mf⟩ := hm8
            refine bodyPost_ret (v := .tuple #[.agg #[.slice (some ⟨g1, 0, none⟩) x.els.length c1, .slice (some ⟨g2, 0, none⟩) x.lims.length c2, .int .i64 x.rep, .int .i64 x.bon, .int .i64 x.kee, .int .i64 x.fal], .bool true]) (by simp [results, Tryd.results36, go_sem, m0, m1, m2, m3, m4, m5]) rfl ?_
            refine ⟨⟨some ⟨g1, 0, none⟩, c1, some ⟨g2, 0, none⟩, c2, g1, g2, ?_, ?_, HS4.out.2.2.2.2.2, ?_, ?_⟩, HB6.out.trans (HK8.out.below HB6.out.size (fun k hk => by omega))⟩
            · rw [scR_yes HRR.out, pB_yes HRR.out]
              show _ = Ending.returned (.tuple #[.agg #[.slice (some ⟨g1, 0, none⟩) (scCd x p).els.length c1, _, _, _, _, _], _])
              rw [show (scCd x p).els.length = x.els.length from scTo_len _ _ _]
              rfl
            · rw [scR_yes HRR.out]
              exact ⟨fun _ => ⟨g1, 0, rfl, rfl, Nat.lt_of_lt_of_le (by have := HS4.out; have := HS6.out; omega) HK8.out.size, HO6.out.block (HK8.out.block g1 (by have := HS4.out; have := HS6.out; omega) (by have := HS4.out; have := hq2.out; omega))⟩, fun _ => ⟨g2, 0, rfl, rfl, Nat.lt_of_lt_of_le (by have := HS4.out; have := HS6.out; omega) HK8.out.size, HI6.out.block (HK8.out.block g2 (by have := HS4.out; have := HS6.out; omega) (by have := HS4.out; have := hq2.out; omega))⟩⟩
            · have := HS4.out; have := hq2.out; have := HS6.out; have := HK8.out.size; omega
            · have := HS4.out; have := hq2.out; have := HS6.out; have := HK8.out.size; omega
          · have HRR := Lib.hid (fun h : ScOk x p => hR h.2.2)
            have he := hn hR
            clear hy hn hR
            subst he
            unfold Cd.zero
            go_wp2
            refine stop_body ⟨?_⟩
            intro w8 hw8
            have hm8 := HM6.out.all (.slice none 0 0) (.slice none 0 0) (.int .i64 0) (.int .i64 0) (.int .i64 0) (.int .i64 0)
            have hk8 := only_six w6 (w.heap.size + 1) (.slice none 0 0) (.slice none 0 0) (.int .i64 0) (.int .i64 0) (.int .i64 0) (.int .i64 0)
            rw [show put6 w6 (w.heap.size + 1) (.slice none 0 0) (.slice none 0 0) (.int .i64 0) (.int .i64 0) (.int .i64 0) (.int .i64 0) = w8 from hw8.symm] at hm8 hk8
            have HK8 := Lib.hid hk8
            clear hw8 hk8 m0 m1 m2 m3 m4 m5 mf
            obtain ⟨m0, m1, m2, m3, m4, m5, mf⟩ := hm8
            refine bodyPost_ret (v := .tuple #[.agg #[.slice none 0 0, .slice none 0 0, .int .i64 0, .int .i64 0, .int .i64 0, .int .i64 0], .bool false]) (by simp [results, Tryd.results36, go_sem, m0, m1, m2, m3, m4, m5]) rfl ?_
            exact codeAns_no HRR.out (scR_no HRR.out) rfl (by have := hq2.out; have := HS4.out; have := HS6.out; have := HK8.out.size; omega) (HB6.out.trans (HK8.out.below HB6.out.size (fun k hk => by omega)))
    · have HRR := Lib.hid (fun h : ScOk x p => hp h.2.1)
      clear hok
      obtain ⟨m0, m1, m2, m3, m4, m5, mf⟩ := HM2.out
      go_wp2_with (go_at_call 60; refine (l1In_no _ _ _ _ hp).mono ?_; rintro e w' ⟨rfl, rfl⟩)
      refine stop_body ⟨?_⟩
      intro w8 hw8
      have hm8 := HM2.out.all (.slice none 0 0) (.slice none 0 0) (.int .i64 0) (.int .i64 0) (.int .i64 0) (.int .i64 0)
      have hk8 := only_six w2 (w.heap.size + 1) (.slice none 0 0) (.slice none 0 0) (.int .i64 0) (.int .i64 0) (.int .i64 0) (.int .i64 0)
      rw [show put6 w2 (w.heap.size + 1) (.slice none 0 0) (.slice none 0 0) (.int .i64 0) (.int .i64 0) (.int .i64 0) (.int .i64 0) = w8 from hw8.symm] at hm8 hk8
      have HK8 := Lib.hid hk8
      clear hw8 hk8 m0 m1 m2 m3 m4 m5 mf
      obtain ⟨m0, m1, m2, m3, m4, m5, mf⟩ := hm8
      refine bodyPost_ret (v := .tuple #[.agg #[.slice none 0 0, .slice none 0 0, .int .i64 0, .int .i64 0, .int .i64 0, .int .i64 0], .bool false]) (by simp [results, Tryd.results36, go_sem, m0, m1, m2, m3, m4, m5]) rfl ?_
      exact codeAns_no HRR.out (scR_no HRR.out) rfl (by have := HS2.out; have := HK8.out.size; omega) (HB2.out.trans (HK8.out.below HB2.out.size (fun k hk => by omega)))
  · rw [pB_no hok] at he
    subst he
    have HRR := Lib.hid (fun h : ScOk x p => hok h.1)
    clear hok
    obtain ⟨m0, m1, m2, m3, m4, m5, mf⟩ := HM2.out
    go_wp2
    refine stop_body ⟨?_⟩
    intro w8 hw8
    have hm8 := HM2.out.all (.slice none 0 0) (.slice none 0 0) (.int .i64 0) (.int .i64 0) (.int .i64 0) (.int .i64 0)
    have hk8 := only_six w2 (w.heap.size + 1) (.slice none 0 0) (.slice none 0 0) (.int .i64 0) (.int .i64 0) (.int .i64 0) (.int .i64 0)
    rw [show put6 w2 (w.heap.size + 1) (.slice none 0 0) (.slice none 0 0) (.int .i64 0) (.int .i64 0) (.int .i64 0) (.int .i64 0) = w8 from hw8.symm] at hm8 hk8
    have HK8 := Lib.hid hk8
    clear hw8 hk8 m0 m1 m2 m3 m4 m5 mf
    obtain ⟨m0, m1, m2, m3, m4, m5, mf⟩ := hm8
    refine bodyPost_ret (v := .tuple #[.agg #[.slice none 0 0, .slice none 0 0, .int .i64 0, .int .i64 0, .int .i64 0, .int .i64 0], .bool false]) (by simp [results, Tryd.results36, go_sem, m0, m1, m2, m3, m4, m5]) rfl ?_
    exact codeAns_no HRR.out (scR_no HRR.out) rfl (by have := HS2.out; have := HK8.out.size; omega) (HB2.out.trans (HK8.out.below HB2.out.size (fun k hk => by omega)))


set_option maxHeartbeats 2000000 in
theorem iScale_any (A L : Option Addr) (c d : Nat) (x : Cd) (p : Int) (w : World) (hr : CdAt w A L x) (hl : CdFits x) (ht : Tab w) :
    Calls Tryd.prog 37 #[x.val A c L d, .int .i64 p] w (CodeAns w (scR x p) (ScOk x p)) := by
  have HR := Lib.hid hr
  have HL := Lib.hid hl
  have HT := Lib.hid ht
  clear hr hl ht
  unfold Cd.val
  go_enter Tryd.func37, Tryd.ntmps37
  go_wp2_with fail
  generalize hW : World.alloc (World.alloc w _) _ = W
  have hB : Below w.heap.size w W := by
    rw [← hW]
    go_grown
  have hS : W.heap.size = w.heap.size + 2 := by rw [← hW]; simp
  have hX : BoxAt W w.heap.size A c L d x := ⟨by omega, by
    rw [← hW]
    exact (cdBox_new w _ _ rfl A c L d x).below ((Below.refl _ _).alloc (Nat.le_refl _) _) (by simp)⟩
  have hM : CdMem W (w.heap.size + 1) (.slice none 0 0) (.slice none 0 0) (.int .i64 0) (.int .i64 0) (.int .i64 0) (.int .i64 0) := by
    rw [← hW]
    exact cdMem_new _ _ _ (by simp) _ _ _ _ _ _
  clear hW
  refine (iIsCode_any A L c d x W (HR.out.below hB) HL.out (HT.out.next hB)).mono ?_
  rintro e w2 ⟨he, hb⟩
  have HM2 := Lib.hid (hM.below hb (by omega))
  have HX2 := Lib.hid (hX.next hb)
  have HR2 := Lib.hid ((HR.out.below hB).below hb)
  have HT2 := Lib.hid ((HT.out.next hB).next hb)
  have HB2 := Lib.hid (Below_next hB hb)
  have HS2 := Lib.hid (show w.heap.size + 2 ≤ w2.heap.size by rw [← hS]; exact hb.size)
  clear hB hb hX hM hS
  by_cases hok : CdOk x
  · rw [pB_yes hok] at he
    subst he
    by_cases hp : 1 ≤ p ∧ p ≤ 200
    · have HOK := Lib.hid hok
      have HP := Lib.hid hp
      obtain ⟨p1, p2⟩ := hp
      clear hok
      obtain ⟨x0, x1, x2, x3, x4, x5⟩ := HX2.out.box
      go_wp2_with (go_at_call 47; refine (inBounds_yes _ _ _ _ _ HT2.out (by omega) rfl (by omega) (by omega)).mono ?_; rintro e w' ⟨rfl, rfl⟩)
      clear x0 x1 x2 x3 x4 x5
      refine (iCopyN_any A L c d x w2 HR2.out HOK.out).mono ?_
      rintro e w3 ⟨g1, c1, g2, c2, rfl, hn, hb⟩
      obtain ⟨w4, hW, hB4⟩ := boxed 30 w3 (some ⟨g1, 0, none⟩) c1 (some ⟨g2, 0, none⟩) c2 x
      have hb4 := Below_next hb hB4.below
      have HM4 := Lib.hid (HM2.out.below hb4 (Nat.lt_of_lt_of_le (by omega) HS2.out))
      have HX4 := Lib.hid (HX2.out.next hb4)
      have HR4 := Lib.hid (HR2.out.below hb4)
      have HT4 := Lib.hid (HT2.out.next hb4)
      have HB4 := Lib.hid (Below_next HB2.out hb4)
      have HY4 := Lib.hid hB4.at_
      have hN4 : CdNew w4 w2.heap.size g1 g2 x := by rw [hW]; exact hn.box _
      have HN4 := Lib.hid hN4
      have HE4 := Lib.hid hN4.els
      have HS4 := Lib.hid (show w2.heap.size ≤ g1 ∧ g1 < w3.heap.size ∧ w3.heap.size < w4.heap.size ∧ w2.heap.size ≤ g2 ∧ g2 < w4.heap.size ∧ g1 ≠ g2 from ⟨hn.le1, hn.lt1, hB4.lt, hN4.le2, hN4.lt2, hn.ne⟩)
      have hq2 : Hid (w.heap.size + 2 ≤ w2.heap.size) := HS2
      have HX3 := Lib.hid (HX2.out.next hb)
      unfold boxCd at hW
      have HW := Lib.hid hW
      obtain ⟨x0, x1, x2, x3, x4, x5⟩ := HX3.out.box
      have hll : x.els.length ≤ 1048576 := HL.out.1.1
      have hn3 := HX3.out.lt
      clear hb hn hB4 hb4 hN4 hW
      go_wp2
      clear x0 x1 x2 x3 x4 x5
      go_loopw [23] (fun i wr => ∃ k : Nat, k ≤ x.els.length ∧ i = .int .i64 k ∧ Hid (OwnAt wr g1 0 (scTo x.els p k)) ∧ Hid (Only (fun i => i = g1) w4 wr)) (fun i _ => x.els.length - (intOf i).toNat)
      case atStart => exact ⟨0, Nat.zero_le _, rfl, by rw [← HW.out]; exact HE4, Lib.hid (by rw [← HW.out]; exact Only.refl _ _)⟩
      case round =>
        obtain ⟨k, hk, rfl, HO, HK⟩ := hrel
        have HN0 := Lib.hid (show ¬ w.heap.size = g1 ∧ ¬ w.heap.size + 1 = g1 ∧ ¬ w3.heap.size = g1 by have := HS4.out; have := hq2.out; omega)
        have HY := Lib.hid (HY4.out.only HK.out HN0.out.2.2)
        by_cases hlt : k < x.els.length
        · obtain ⟨b, o, rfl, hbl, hc⟩ := HR.out.els.el' (by omega)
          have hbg : ¬ b = g1 := by have := HS4.out; have := hq2.out; omega
          have hb4s : b < w4.heap.size := by have := HS4.out; have := hq2.out; omega
          obtain ⟨e0, e1, e2, e3⟩ := elAt (((hc k hlt).below HB4.out hbl).only HK.out hb4s hbg)
          have y0 := HY.out.box.c0
          have hbs := (HOK.out.els.el k hlt).base
          have hm0 : 0 ≤ (it x.els k).base * p := Int.mul_nonneg (by omega) (by omega)
          have hm1 : (it x.els k).base * p ≤ 2000 * 200 := Int.mul_le_mul hbs.2 p2 (by omega) (by omega)
          have m4 : IntKind.i64.wrap ((it x.els k).base * p) = (it x.els k).base * p := IntWalk.i64_in _ (by omega)
          have m5 : ((it x.els k).base * p).tdiv 100 = (it x.els k).base * p / 100 := Int.tdiv_eq_ediv_of_nonneg hm0
          have hm2 : (it x.els k).base * p / 100 ≤ 4000 := by omega
          have hm3 : 0 ≤ (it x.els k).base * p / 100 := by omega
          have HLT := Lib.hid (show g1 < wr.heap.size from Nat.lt_of_lt_of_le (by have := HS4.out; omega) HK.out.size)
          have HN2 := Lib.hid (show w3.heap.size < wr.heap.size from Nat.lt_of_lt_of_le HS4.out.2.2.1 HK.out.size)
          have k0 : (0 : Int) ≤ (k : Int) := by omega
          have k1 : (k : Int) < (x.els.length : Int) := by omega
          have bs : b < wr.heap.size := Nat.lt_of_lt_of_le hb4s HK.out.size
          clear hc hbs hbg hb4s hm0 hm1
          obtain ⟨⟨_, _, _, d3⟩, _, _, _, f3⟩ := HO.out.el0 k (by rw [scTo_len]; exact hlt)
          have hg1w := HLT.out
          have hn2w := HN2.out
          have HPUT := Lib.hid (show OwnAt (wr.setCell ⟨g1, k * 4 + 3, none⟩ (.int .i64 (max 1 ((it x.els k).base * p / 100)))) g1 0 (scTo x.els p (k + 1)) by
            have := HO.out.put1 k 3 (scEl p (it x.els k)) (.int .i64 (max 1 ((it x.els k).base * p / 100))) (by rw [scTo_len]; exact hlt) (by decide) (by show some (Value.int .i64 (max 1 ((it x.els k).base * p / 100))) = some (Value.int .i64 (max 1 ((it x.els k).base * p / 100))); rfl) (fun i hi => by
              rw [scTo_ge _ _ _ _ hk (Nat.le_refl _)]
              match i, hi with
              | 0, _ => rfl
              | 1, _ => rfl
              | 2, _ => rfl
              | i + 4, _ => rfl)
            rwa [show 0 + k * Flat.sz El + 3 = k * 4 + 3 by show 0 + k * 4 + 3 = _; omega] at this)
          have HKP := Lib.hid (HK.out.put g1 (k * 4 + 3) rfl (.int .i64 (max 1 ((it x.els k).base * p / 100))))
          go_wp2
          go_roundw
          case rel => exact ⟨k + 1, by omega, by go_num, Lib.hid (HPUT.out.next (by simpa [World.setCell] using HLT.out) (below_alloc _ _)), Lib.hid (HKP.out.trans (Only.of_below (below_alloc _ _) (Nat.le_refl _)))⟩
          case measure => simp [intOf]; omega
        · obtain rfl : k = x.els.length := by omega
          have HMW := Lib.hid (HM4.out.only HK.out (by have := HS4.out; have := hq2.out; omega) HN0.out.2.1)
          have HIW := Lib.hid (HN4.out.lims.block (HK.out.block g2 HS4.out.2.2.2.2.1 (by have := HS4.out; omega)))
          have HBW := Lib.hid (HB4.out.trans (HK.out.below HB4.out.size (fun i hi => by have := HS4.out; have := hq2.out; omega)))
          have HSW := Lib.hid HK.out.size
          have HTW := Lib.hid (HT4.out.only HK.out (by have := HS4.out; have := hq2.out; have := HT2.out.lt; omega))
          have hRl : (scCd x p).els.length = x.els.length := scTo_len _ _ _
          have hat : CdAt wr (some ⟨g1, 0, none⟩) (some ⟨g2, 0, none⟩) (scCd x p) := ⟨fun _ => ⟨g1, 0, rfl, Nat.lt_of_lt_of_le (by have := HS4.out; omega) HSW.out, HO.out.cell⟩, fun _ => ⟨g2, 0, rfl, Nat.lt_of_lt_of_le HS4.out.2.2.2.2.1 HSW.out, HIW.out.cell⟩⟩
          have hcall := iIfValid_any (some ⟨g1, 0, none⟩) (some ⟨g2, 0, none⟩) c1 c2 (scCd x p) wr hat (scCd_fits HOK.out) HTW.out
          unfold Cd.val at hcall
          rw [hRl] at hcall
          have HCALL := Lib.hid hcall
          clear hcall hat hRl
          obtain ⟨y0, y1, y2, y3, y4, y5⟩ := HY.out.box
          go_wp2_with fail
          clear y0 y1 y2 y3 y4 y5
          refine HCALL.out.mono ?_
          rintro e w6 ⟨hy, hn, hb⟩
          have HM6 := Lib.hid (HMW.out.below hb (Nat.lt_of_lt_of_le (by have := HS4.out; have := hq2.out; omega) HSW.out))
          have HO6 := Lib.hid (HO.out.block (hb.block g1 (Nat.lt_of_lt_of_le (by have := HS4.out; omega) HSW.out)))
          have HI6 := Lib.hid (HIW.out.block (hb.block g2 (Nat.lt_of_lt_of_le HS4.out.2.2.2.2.1 HSW.out)))
          have HB6 := Lib.hid (Below_next HBW.out hb)
          have HS6 := Lib.hid (Nat.le_trans HSW.out hb.size)
          clear hb
          obtain ⟨m0, m1, m2, m3, m4, m5, mf⟩ := HM6.out
          by_cases hR : CdOk (scCd x p)
          · have HRR := Lib.hid (show ScOk x p from ⟨HOK.out, HP.out, hR⟩)
            have he := hy hR
            clear hy hn hR
            subst he
            go_wp2
            refine stop_body ⟨?_⟩
            intro w8 hw8
            have hm8 := HM6.out.all (.slice (some ⟨g1, 0, none⟩) x.els.length c1) (.slice (some ⟨g2, 0, none⟩) x.lims.length c2) (.int .i64 x.rep) (.int .i64 x.bon) (.int .i64 x.kee) (.int .i64 x.fal)
            have hk8 := only_six w6 (w.heap.size + 1) (.slice (some ⟨g1, 0, none⟩) x.els.length c1) (.slice (some ⟨g2, 0, none⟩) x.lims.length c2) (.int .i64 x.rep) (.int .i64 x.bon) (.int .i64 x.kee) (.int .i64 x.fal)
            rw [show put6 w6 (w.heap.size + 1) (.slice (some ⟨g1, 0, none⟩) x.els.length c1) (.slice (some ⟨g2, 0, none⟩) x.lims.length c2) (.int .i64 x.rep) (.int .i64 x.bon) (.int .i64 x.kee) (.int .i64 x.fal) = w8 from hw8.symm] at hm8 hk8
            have HK8 := Lib.hid hk8
            clear hw8 hk8 m0 m1 m2 m3 m4 m5 mf
            obtain ⟨m0, m1, m2, m3, m4, m5, mf⟩ := hm8
            refine bodyPost_ret (v := .tuple #[.agg #[.slice (some ⟨g1, 0, none⟩) x.els.length c1, .slice (some ⟨g2, 0, none⟩) x.lims.length c2, .int .i64 x.rep, .int .i64 x.bon, .int .i64 x.kee, .int .i64 x.fal], .bool true]) (by simp [results, Tryd.results37, go_sem, m0, m1, m2, m3, m4, m5]) rfl ?_
            refine ⟨⟨some ⟨g1, 0, none⟩, c1, some ⟨g2, 0, none⟩, c2, g1, g2, ?_, ?_, HS4.out.2.2.2.2.2, ?_, ?_⟩, HB6.out.trans (HK8.out.below HB6.out.size (fun k hk => by omega))⟩
            · rw [scR_yes HRR.out, pB_yes HRR.out]
              show _ = Ending.returned (.tuple #[.agg #[.slice (some ⟨g1, 0, none⟩) (scCd x p).els.length c1, _, _, _, _, _], _])
              rw [show (scCd x p).els.length = x.els.length from scTo_len _ _ _]
              rfl
            · rw [scR_yes HRR.out]
              exact ⟨fun _ => ⟨g1, 0, rfl, rfl, Nat.lt_of_lt_of_le (by have := HS4.out; have := HS6.out; omega) HK8.out.size, HO6.out.block (HK8.out.block g1 (by have := HS4.out; have := HS6.out; omega) (by have := HS4.out; have := hq2.out; omega))⟩, fun _ => ⟨g2, 0, rfl, rfl, Nat.lt_of_lt_of_le (by have := HS4.out; have := HS6.out; omega) HK8.out.size, HI6.out.block (HK8.out.block g2 (by have := HS4.out; have := HS6.out; omega) (by have := HS4.out; have := hq2.out; omega))⟩⟩
            · have := HS4.out; have := hq2.out; have := HS6.out; have := HK8.out.size; omega
            · have := HS4.out; have := hq2.out; have := HS6.out; have := HK8.out.size; omega
          · have HRR := Lib.hid (fun h : ScOk x p => hR h.2.2)
            have he := hn hR
            clear hy hn hR
            subst he
            unfold Cd.zero
            go_wp2
            refine stop_body ⟨?_⟩
            intro w8 hw8
            have hm8 := HM6.out.all (.slice none 0 0) (.slice none 0 0) (.int .i64 0) (.int .i64 0) (.int .i64 0) (.int .i64 0)
            have hk8 := only_six w6 (w.heap.size + 1) (.slice none 0 0) (.slice none 0 0) (.int .i64 0) (.int .i64 0) (.int .i64 0) (.int .i64 0)
            rw [show put6 w6 (w.heap.size + 1) (.slice none 0 0) (.slice none 0 0) (.int .i64 0) (.int .i64 0) (.int .i64 0) (.int .i64 0) = w8 from hw8.symm] at hm8 hk8
            have HK8 := Lib.hid hk8
            clear hw8 hk8 m0 m1 m2 m3 m4 m5 mf
            obtain ⟨m0, m1, m2, m3, m4, m5, mf⟩ := hm8
            refine bodyPost_ret (v := .tuple #[.agg #[.slice none 0 0, .slice none 0 0, .int .i64 0, .int .i64 0, .int .i64 0, .int .i64 0], .bool false]) (by simp [results, Tryd.results37, go_sem, m0, m1, m2, m3, m4, m5]) rfl ?_
            exact codeAns_no HRR.out (scR_no HRR.out) rfl (by have := hq2.out; have := HS4.out; have := HS6.out; have := HK8.out.size; omega) (HB6.out.trans (HK8.out.below HB6.out.size (fun k hk => by omega)))
    · have HRR := Lib.hid (fun h : ScOk x p => hp h.2.1)
      clear hok
      obtain ⟨m0, m1, m2, m3, m4, m5, mf⟩ := HM2.out
      go_wp2_with (go_at_call 47; refine (inBounds_no _ _ _ _ _ HT2.out (by omega) rfl hp).mono ?_; rintro e w' ⟨rfl, rfl⟩)
      refine stop_body ⟨?_⟩
      intro w8 hw8
      have hm8 := HM2.out.all (.slice none 0 0) (.slice none 0 0) (.int .i64 0) (.int .i64 0) (.int .i64 0) (.int .i64 0)
      have hk8 := only_six w2 (w.heap.size + 1) (.slice none 0 0) (.slice none 0 0) (.int .i64 0) (.int .i64 0) (.int .i64 0) (.int .i64 0)
      rw [show put6 w2 (w.heap.size + 1) (.slice none 0 0) (.slice none 0 0) (.int .i64 0) (.int .i64 0) (.int .i64 0) (.int .i64 0) = w8 from hw8.symm] at hm8 hk8
      have HK8 := Lib.hid hk8
      clear hw8 hk8 m0 m1 m2 m3 m4 m5 mf
      obtain ⟨m0, m1, m2, m3, m4, m5, mf⟩ := hm8
      refine bodyPost_ret (v := .tuple #[.agg #[.slice none 0 0, .slice none 0 0, .int .i64 0, .int .i64 0, .int .i64 0, .int .i64 0], .bool false]) (by simp [results, Tryd.results37, go_sem, m0, m1, m2, m3, m4, m5]) rfl ?_
      exact codeAns_no HRR.out (scR_no HRR.out) rfl (by have := HS2.out; have := HK8.out.size; omega) (HB2.out.trans (HK8.out.below HB2.out.size (fun k hk => by omega)))
  · rw [pB_no hok] at he
    subst he
    have HRR := Lib.hid (fun h : ScOk x p => hok h.1)
    clear hok
    obtain ⟨m0, m1, m2, m3, m4, m5, mf⟩ := HM2.out
    go_wp2
    refine stop_body ⟨?_⟩
    intro w8 hw8
    have hm8 := HM2.out.all (.slice none 0 0) (.slice none 0 0) (.int .i64 0) (.int .i64 0) (.int .i64 0) (.int .i64 0)
    have hk8 := only_six w2 (w.heap.size + 1) (.slice none 0 0) (.slice none 0 0) (.int .i64 0) (.int .i64 0) (.int .i64 0) (.int .i64 0)
    rw [show put6 w2 (w.heap.size + 1) (.slice none 0 0) (.slice none 0 0) (.int .i64 0) (.int .i64 0) (.int .i64 0) (.int .i64 0) = w8 from hw8.symm] at hm8 hk8
    have HK8 := Lib.hid hk8
    clear hw8 hk8 m0 m1 m2 m3 m4 m5 mf
    obtain ⟨m0, m1, m2, m3, m4, m5, mf⟩ := hm8
    refine bodyPost_ret (v := .tuple #[.agg #[.slice none 0 0, .slice none 0 0, .int .i64 0, .int .i64 0, .int .i64 0, .int .i64 0], .bool false]) (by simp [results, Tryd.results37, go_sem, m0, m1, m2, m3, m4, m5]) rfl ?_
    exact codeAns_no HRR.out (scR_no HRR.out) rfl (by have := HS2.out; have := HK8.out.size; omega) (HB2.out.trans (HK8.out.below HB2.out.size (fun k hk => by omega)))

end Go.Proofs.YtmncigeelfappaaDoor
