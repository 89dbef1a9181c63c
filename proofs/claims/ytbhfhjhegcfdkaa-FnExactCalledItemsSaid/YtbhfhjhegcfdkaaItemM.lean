/- Lists of items marked and held. -/
import Derived.Test.YtbhfhjhegcfdkaaItemW
namespace Go.Proofs.Ytbhfhjhegcfdkaa
open Go.ChangeShapes Go.WideShapes Go.ChangeAt Go.RowKit
set_option linter.unusedVariables false

/-- The mark that the i-th item begins with. -/
def kAt (xs : List Im) (k : Nat) : Nat → Nat
  | 0 => k
  | i + 1 => kAt xs k i + (it xs i).ns.length + (it xs i).ms.length + 1
theorem kAt_le (xs : List Im) (k : Nat) (hl : ImsFits xs) : ∀ i, i ≤ xs.length → k ≤ kAt xs k i ∧ kAt xs k i ≤ k + i * 2097153
  | 0, _ => by simp [kAt]
  | i + 1, h => by
    have h1 := kAt_le xs k hl i (by omega)
    have h2 := hl.each i (by omega)
    have h3 := h2.ns.1
    have h4 := h2.ms
    simp only [kAt]
    omega
theorem kAt_small (xs : List Im) (k : Nat) (hl : ImsFits xs) (hk : k ≤ 10000000000000) (i : Nat) (hi : i ≤ xs.length) : k ≤ kAt xs k i ∧ kAt xs k i ≤ 100000000000000 := by
  have h1 := kAt_le xs k hl i hi
  have h2 := hl.len
  omega
/-- An item with its marks. -/
def mkIm (k : Nat) (x : Im) : Im := ⟨x.A, x.c, x.L, x.d, seqS k x.ns.length, seqF ((k + x.ns.length : Nat) : Int) x.ms.length, decide ((k + x.ns.length + x.ms.length) % 3 = 0)⟩
theorem late_eq (k : Nat) (x : Im) : (mkIm k x).late = (((k : Int) + (x.ns.length : Int) + (x.ms.length : Int)) % 3 == 0) := by
  show decide ((k + x.ns.length + x.ms.length) % 3 = 0) = _
  rw [Bool.eq_iff_iff]
  simp
  omega
theorem im_mem {w : World} {b o : Nat} {x : Im} (h : ImAt w b o x) : CellsAt w b o (Flat.cells x) := fun j v hv => by
  match j, hv with
  | 0, hv => obtain rfl := Option.some.inj hv; exact h.c0
  | 1, hv => obtain rfl := Option.some.inj hv; exact h.c1
  | 2, hv => obtain rfl := Option.some.inj hv; exact h.c2
/-- One item's flag is stored, and its slices are what they are now. -/
theorem OwnAt.setLate {w : World} {g o : Nat} {ys : List Im} (h : OwnAt w g o ys) (k : Nat) (hk : k < ys.length) (y : Im) (h0 : y.A = (it ys k).A) (h1 : y.c = (it ys k).c) (h2 : y.L = (it ys k).L) (h3 : y.d = (it ys k).d) (h4 : y.ns.length = (it ys k).ns.length) (h5 : y.ms.length = (it ys k).ms.length) :
    OwnAt (w.setCell ⟨g, o + k * 3 + 2, none⟩ (.bool y.late)) g o (ys.set k y) := by
  refine ⟨fun i hi => ?_, fun i j hi hj => ?_⟩
  · rw [List.length_set] at hi
    rw [it_set _ _ _ _ hk]
    have hc := imAt (h.cell i hi)
    apply im_mem
    by_cases e : i = k
    · subst e
      rw [if_pos rfl]
      refine ⟨?_, ?_, ?_⟩
      · rw [World.cell?_setCell_other w _ _ _ (by show _ ≠ _; intro q; injection q with q1 q2; simp [Flat.sz] at q2), h0, h4, h1]
        exact hc.c0
      · rw [World.cell?_setCell_other w _ _ _ (by show _ ≠ _; intro q; injection q with q1 q2; simp [Flat.sz] at q2), h2, h5, h3]
        exact hc.c1
      · exact World.cell?_setCell_same w ⟨g, o + i * 3 + 2, none⟩ _ hc.c2
    · rw [if_neg e]
      have hoff : ∀ j, j < 3 → (⟨g, o + i * 3 + j, none⟩ : Addr) ≠ ⟨g, o + k * 3 + 2, none⟩ := fun j hj q => by injection q with q1 q2; omega
      have hoff' : ∀ j, j < 3 → (⟨g, o + k * 3 + 2, none⟩ : Addr) ≠ ⟨g, o + i * 3 + j, none⟩ := fun j hj q => hoff j hj q.symm
      exact ⟨(World.cell?_setCell_other w _ _ _ (by first | exact hoff 0 (by decide) | exact hoff' 0 (by decide))).trans hc.c0, (World.cell?_setCell_other w _ _ _ (by first | exact hoff 1 (by decide) | exact hoff' 1 (by decide))).trans hc.c1, (World.cell?_setCell_other w _ _ _ (by first | exact hoff 2 (by decide) | exact hoff' 2 (by decide))).trans hc.c2⟩
  · rw [List.length_set] at hi
    exact (World.frozen?_setCell w _ _ _).trans (h.free i j hi hj)
theorem ImOwn.keep {w w' : World} {b o : Nat} {x : Im} (h : ImOwn w b o x) (hb : w'.heap[b]? = w.heap[b]?) : ImOwn w' b o x :=
  ⟨⟨(World.cell?_of_block (w := w) (a := ⟨b, o, none⟩) hb).trans h.c0, (World.cell?_of_block (w := w) (a := ⟨b, o + 1, none⟩) hb).trans h.c1, (World.cell?_of_block (w := w) (a := ⟨b, o + 2, none⟩) hb).trans h.c2⟩,
   (World.frozen?_of_block (w := w) (a := ⟨b, o, none⟩) hb).trans h.f0, (World.frozen?_of_block (w := w) (a := ⟨b, o + 1, none⟩) hb).trans h.f1, (World.frozen?_of_block (w := w) (a := ⟨b, o + 2, none⟩) hb).trans h.f2⟩
/-- The step of a mark: the names and the marks of an item written, then its flag. -/
theorem ImsOwn.mark {S : Nat → Prop} {w w1 w2 : World} {g o : Nat} {G : Nat → Nat} {ys : List Im} (h : ImsOwn S w (some ⟨g, o, none⟩) g G ys) (j : Nat) (hj : j < ys.length) (y : Im) (h0 : y.A = (it ys j).A) (h1 : y.c = (it ys j).c) (h2 : y.L = (it ys j).L) (h3 : y.d = (it ys j).d) (h4 : y.ns.length = (it ys j).ns.length) (h5 : y.ms.length = (it ys j).ms.length)
    (n1 : Owned (fun i => i = G (2 * j)) w1 (it ys j).A y.ns) (o1 : Only (fun i => i = G (2 * j)) w w1) (m2 : Owned (fun i => i = G (2 * j + 1)) w2 (it ys j).L y.ms) (o2 : Only (fun i => i = G (2 * j + 1)) w1 w2) :
    ImsOwn S (w2.setCell ⟨g, o + j * 3 + 2, none⟩ (.bool y.late)) (some ⟨g, o, none⟩) g G (ys.set j y) := by
  have o3 : Only (fun i => i = g) w2 (w2.setCell ⟨g, o + j * 3 + 2, none⟩ (.bool y.late)) :=
    Only.setCell (S := fun i => i = g) (Only.refl _ w2) (p := ⟨g, o + j * 3 + 2, none⟩) rfl _
  obtain ⟨g', o', e, rfl, hg, ho⟩ := h.out (by omega)
  injection e with e
  injection e with e1 e2
  subst e2
  have hG : ∀ a b, a ≠ b → a < 2 * ys.length → b < 2 * ys.length → G a ≠ G b := fun a b hne ha hb => by
    rcases Nat.lt_or_gt_of_ne hne with hlt | hlt
    · exact h.inj a b hlt hb
    · exact fun q => h.inj b a hlt ha q.symm
  refine ⟨fun _ => ⟨g', o, rfl, rfl, ?_, ?_⟩, fun i hi => ?_, fun i hi => ?_, fun i hi => h.ne i (by simpa using hi), fun i k hik hk => h.inj i k hik (by simpa using hk), fun _ => h.sg (by omega), fun i hi => h.sG i (by simpa using hi)⟩
  · exact Nat.lt_of_lt_of_le hg (Nat.le_trans o1.size (Nat.le_trans o2.size o3.size))
  · have hb1 := o1.block g' hg (fun q => h.ne (2 * j) (by omega) q.symm)
    have hb2 := o2.block g' (Nat.lt_of_lt_of_le hg o1.size) (fun q => h.ne (2 * j + 1) (by omega) q.symm)
    exact ((ho.block hb1).block hb2).setLate j hj y h0 h1 h2 h3 h4 h5
  · rw [List.length_set] at hi
    rw [it_set _ _ _ _ hj]
    by_cases e : i = j
    · subst e
      rw [if_pos rfl, h0]
      exact (n1.keep o2 (fun a q1 q2 => hG (2 * i) (2 * i + 1) (by omega) (by omega) (by omega) (q1.symm.trans q2))).keep o3 (fun a q1 q2 => h.ne (2 * i) (by omega) (q1.symm.trans q2))
    · rw [if_neg e]
      exact (((h.ns i hi).keep o1 (fun a q1 q2 => hG (2 * i) (2 * j) (by omega) (by omega) (by omega) (q1.symm.trans q2))).keep o2 (fun a q1 q2 => hG (2 * i) (2 * j + 1) (by omega) (by omega) (by omega) (q1.symm.trans q2))).keep o3 (fun a q1 q2 => h.ne (2 * i) (by omega) (q1.symm.trans q2))
  · rw [List.length_set] at hi
    rw [it_set _ _ _ _ hj]
    by_cases e : i = j
    · subst e
      rw [if_pos rfl, h2]
      exact m2.keep o3 (fun a q1 q2 => h.ne (2 * i + 1) (by omega) (q1.symm.trans q2))
    · rw [if_neg e]
      exact (((h.ms i hi).keep o1 (fun a q1 q2 => hG (2 * i + 1) (2 * j) (by omega) (by omega) (by omega) (q1.symm.trans q2))).keep o2 (fun a q1 q2 => hG (2 * i + 1) (2 * j + 1) (by omega) (by omega) (by omega) (q1.symm.trans q2))).keep o3 (fun a q1 q2 => h.ne (2 * i + 1) (by omega) (q1.symm.trans q2))

/-- The list with the marks of the first j items. -/
structure Marked (xs : List Im) (k j : Nat) (ys : List Im) : Prop where
  len : ys.length = xs.length
  done : ∀ i, i < j → it ys i = mkIm (kAt xs k i) (it xs i)
  todo : ∀ i, j ≤ i → i < xs.length → it ys i = it xs i
theorem Marked.step {xs ys : List Im} {k j : Nat} (h : Marked xs k j ys) (hj : j < xs.length) : Marked xs k (j + 1) (ys.set j (mkIm (kAt xs k j) (it xs j))) :=
  ⟨by rw [List.length_set]; exact h.len, fun i hi => by
    rw [it_set _ _ _ _ (by have := h.len; omega)]
    by_cases e : i = j
    · rw [if_pos e, e]
    · rw [if_neg e]
      exact h.done i (by omega), fun i h1 h2 => by
    rw [it_set _ _ _ _ (by have := h.len; omega), if_neg (by omega)]
    exact h.todo i (by omega) h2⟩
theorem markIntS_i (S : Nat → Prop) (A : Option Addr) (c : Nat) (xs : List Int) (m : Int) (k : Nat) (w : World) (hm : m = (k : Int)) (hr : Owned S w A xs) (hl : xs.length ≤ 1048576) (hk2 : k ≤ 1000000000000000) :
    Calls Try.prog 31 #[.slice A xs.length c, .int .i64 m] w fun e w' => e = .returned (.int .i64 ((k + xs.length : Nat) : Int)) ∧ Owned S w' A (seqF (k : Int) xs.length) ∧ Only S w w' := by
  subst hm
  exact (markIntS_any S A c xs k w hr hl (by omega) (by omega)).mono (by rintro e w' ⟨rfl, h⟩; exact ⟨by congr 2, h⟩)

set_option maxHeartbeats 1000000 in
theorem markItemS_any (S : Nat → Prop) (P : Option Addr) (c : Nat) (g : Nat) (G : Nat → Nat) (xs : List Im) (k : Nat) (w : World) (hr : ImsOwn S w P g G xs) (hl : ImsFits xs) (hk : 0 < k) (hk2 : k ≤ 10000000000000) :
    Calls Try.prog 11 #[.slice P xs.length c, .int .i64 k] w fun e w' => e = .returned (.int .i64 ((kAt xs k xs.length : Nat) : Int)) ∧ (∃ ys, Marked xs k xs.length ys ∧ ImsOwn S w' P g G ys) ∧ Only S w w' := by
  rcases Nat.eq_zero_or_pos xs.length with h0 | h0
  · obtain rfl : xs = [] := List.eq_nil_of_length_eq_zero h0
    have HR := Lib.hid hr
    clear hr h0 hl
    go_enter Try.func11, Try.ntmps11
    go_wp2
    go_loop [1, 5] (fun q i => i = .int .i64 0 ∧ q = .int .i64 k) (fun _ _ => 0)
    case atStart => exact ⟨rfl, rfl⟩
    case round =>
      obtain ⟨rfl, rfl⟩ := hrel
      go_wp2
      go_ret
      exact ⟨by simp [kAt], ⟨[], ⟨rfl, fun i hi => absurd hi (by simp), fun i _ hi => absurd hi (by simp)⟩, HR.out⟩, Only.refl _ _⟩
  · obtain ⟨g', o, rfl, rfl, hg, ho⟩ := hr.out h0
    have HR := Lib.hid hr
    have HF := Lib.hid hl.each
    have HK := Lib.hid (kAt_small xs k hl hk2)
    have hl' := hl.len
    clear hr ho hg hl
    go_enter Try.func11, Try.ntmps11
    go_wp2
    go_loopw [1, 5] (fun q i wr => ∃ (j : Nat) (ys : List Im), j ≤ xs.length ∧ i = .int .i64 j ∧ q = .int .i64 ((kAt xs k j : Nat) : Int) ∧ Hid (Marked xs k j ys) ∧ Hid (ImsOwn S wr (some ⟨g', o, none⟩) g' G ys) ∧ Only S w wr) (fun _ i _ => xs.length - (intOf i).toNat)
    case atStart => exact ⟨0, xs, Nat.zero_le _, rfl, rfl, Lib.hid ⟨rfl, fun i hi => absurd hi (by omega), fun i _ _ => rfl⟩, HR, Only.refl _ _⟩
    case round =>
      obtain ⟨j, ys, hj, rfl, rfl, HM, HO, hn⟩ := hrel
      have HN := Lib.hid hn
      clear hn
      by_cases hlt : j < xs.length
      · have hys := HM.out.len
        have hjy : j < ys.length := by omega
        have hitem := HM.out.todo j (Nat.le_refl _) hlt
        have hfit := HF.out j hlt
        have hfn := hfit.ns.1
        have hfm := hfit.ms
        obtain ⟨k1, k2⟩ := HK.out j hj
        obtain ⟨g1, o1, e1, e2, hg, ho⟩ := HO.out.out (by omega)
        injection e1 with e1
        injection e1 with e3 e4
        subst e4 e2
        have hW := ho.im j hjy
        rw [hitem] at hW
        have HNS := Lib.hid (HO.out.ns j hjy)
        have HMS := Lib.hid (HO.out.ms j hjy)
        have HGN := Lib.hid (HO.out.ne (2 * j) (by omega))
        have HGM := Lib.hid (HO.out.ne (2 * j + 1) (by omega))
        have HGG := Lib.hid (HO.out.inj (2 * j) (2 * j + 1) (by omega) (by omega))
        have HG0 := Lib.hid (HO.out.sG (2 * j) (by omega))
        have HG1 := Lib.hid (HO.out.sG (2 * j + 1) (by omega))
        rw [hitem] at HNS HMS
        have HW := Lib.hid hW
        obtain ⟨⟨c0, c1, c2⟩, f0, f1, f2⟩ := hW
        clear ho
        have q1 : (0 : Int) ≤ (j : Int) := by omega
        have q2 : (j : Int) < (xs.length : Int) := by omega
        go_wp2_with fail
        refine (markStringS_any (fun i => i = G (2 * j)) (it xs j).A (it xs j).c (it xs j).ns (kAt xs k j) _ HNS.out hfit.ns.1 (by omega) (by omega)).mono ?_
        rintro e w1 ⟨rfl, hn1, on1⟩
        have hW1 := HW.out.keep (on1.block g1 hg (fun q => HGN.out q.symm))
        have hg1 : g1 < w1.heap.size := Nat.lt_of_lt_of_le hg on1.size
        have HM1 := Lib.hid (HMS.out.keep on1 (fun a q1 q2 => HGG.out (q2.symm.trans q1)))
        have HN1 := Lib.hid hn1
        have HO1 := Lib.hid on1
        have HW1 := Lib.hid hW1
        obtain ⟨⟨c0, c1, c2⟩, f0, f1, f2⟩ := hW1
        clear hn1 on1
        go_wp2_with fail
        refine (markIntS_i (fun i => i = G (2 * j + 1)) (it xs j).L (it xs j).d (it xs j).ms _ (kAt xs k j + (it xs j).ns.length) _ (by omega) HM1.out hfit.ms (by omega)).mono ?_
        rintro e w2 ⟨rfl, hm2, on2⟩
        have hW2 := HW1.out.keep (on2.block g1 hg1 (fun q => HGM.out q.symm))
        have hg2 : g1 < w2.heap.size := Nat.lt_of_lt_of_le hg1 on2.size
        have HM2 := Lib.hid hm2
        have HO2 := Lib.hid on2
        obtain ⟨⟨c0, c1, c2⟩, f0, f1, f2⟩ := hW2
        clear hm2 on2 HW1
        go_wp2_with fail
        have HX := HO.out.mark j hjy (mkIm (kAt xs k j) (it xs j)) (by rw [hitem]; rfl) (by rw [hitem]; rfl) (by rw [hitem]; rfl) (by rw [hitem]; rfl) (by rw [hitem]; exact seqS_len _ _) (by rw [hitem]; exact seqF_len _ _) (by rw [hitem]; exact HN1.out) HO1.out (by rw [hitem]; exact HM2.out) HO2.out
        rw [late_eq] at HX
        have HXX := Lib.hid HX
        have HNN := Lib.hid ((HN.out.trans (HO1.out.mono (fun i e => e ▸ HG0.out))).trans (HO2.out.mono (fun i e => e ▸ HG1.out)))
        have hmk := HM.out.step hlt
        have HMK := Lib.hid hmk
        clear HX hmk
        go_roundw
        case rel => exact ⟨j + 1, _, by omega, by go_num, by simp only [kAt]; go_num, HMK, HXX, HNN.out.setCell (HO.out.sg (by omega)) _⟩
        case measure => simp [intOf]; omega
      · obtain rfl : j = xs.length := by omega
        go_wp2
        go_ret
        exact ⟨rfl, ⟨ys, HM.out, HO.out⟩, HN.out⟩
end Go.Proofs.Ytbhfhjhegcfdkaa
