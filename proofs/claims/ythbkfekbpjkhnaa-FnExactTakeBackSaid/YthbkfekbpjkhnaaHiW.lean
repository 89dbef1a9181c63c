/- AddChange, both sides. -/
import Derived.Test.YthbkfekbpjkhnaaHiN
import Derived.Test.YthbkfekbpjkhnaaHiV
import Derived.Deep.RegionHeld3
namespace Go.Proofs.Ythbkfekbpjkhnaa
open Go.ChangeShapes Go.WideShapes Go.ChangeAt Go.RowKit Go.Lib Go.Proofs Go.PlainAid
set_option linter.unusedVariables false

theorem it_snoc_l {α : Type} [Inhabited α] {xs : List α} {x : α} {k : Nat} (h : k < xs.length) : it (xs ++ [x]) k = it xs k := by
  unfold it
  rw [List.getD_eq_getElem?_getD, List.getD_eq_getElem?_getD, List.getElem?_append_left h]
/-- What a history begins with is one. -/
theorem HiOk.pre {xs : List Im} {hs : List Cg} {x : Cg} (h : HiOk xs (hs ++ [x])) : HiOk xs hs := by
  have hl : (hs ++ [x]).length = hs.length + 1 := by simp
  refine ⟨h.1, by have := h.2.few; omega, fun k hk => ?_, fun k hk => ?_⟩
  · exact (h.2.tk k (by omega)).congr (fun j hj => (it_snoc_l (by omega)).symm)
  · exact (h.2.ok k (by omega)).congr (fun j hj => (it_snoc_l (by omega)).symm)
def AdOk (xs : List Im) (hs : List Cg) (x : Cg) : Prop := HiOk xs (hs ++ [x])
noncomputable def adF (xs : List Im) (hs : List Cg) (x : Cg) : List Cg := @ite _ (AdOk xs hs x) (Classical.propDecidable _) (hs ++ [x]) []
theorem adF_yes {xs : List Im} {hs : List Cg} {x : Cg} (h : AdOk xs hs x) : adF xs hs x = hs ++ [x] := if_pos h
theorem adF_no {xs : List Im} {hs : List Cg} {x : Cg} (h : ¬ AdOk xs hs x) : adF xs hs x = [] := if_neg h
theorem adOk_iff {xs ys : List Im} (h : SameS xs ys) (hs : List Cg) (x : Cg) : AdOk ys hs x ↔ AdOk xs hs x := hiOk_same h (hs ++ [x])
theorem adOk_same {xs ys : List Im} (h : SameS xs ys) (hs : List Cg) (x : Cg) : pB (AdOk ys hs x) = pB (AdOk xs hs x) := pB_iff (adOk_iff h hs x)
theorem adF_same {xs ys : List Im} (h : SameS xs ys) (hs : List Cg) (x : Cg) : adF ys hs x = adF xs hs x := by
  by_cases k : AdOk xs hs x
  · rw [adF_yes k, adF_yes ((adOk_iff h hs x).2 k)]
  · rw [adF_no k, adF_no (fun q => k ((adOk_iff h hs x).1 q))]
theorem adF_small (xs : List Im) (hs : List Cg) (x : Cg) (h : hs.length ≤ 1048576) : (adF xs hs x).length ≤ 1048576 := by
  by_cases k : AdOk xs hs x
  · rw [adF_yes k]
    have := k.2.few
    omega
  · rw [adF_no k]
    simp
/-- An answer with changes. -/
def CgAns (w : World) (V : List Cg) (p : Prop) (e : Ending) (w' : World) : Prop := (∃ R d, e = .returned (.tuple #[.slice R V.length d, .bool (pB p)]) ∧ Owned (fun i => w.heap.size ≤ i ∧ i < w'.heap.size) w' R V) ∧ Below w.heap.size w w'
theorem cgAns_nil {w w' : World} {p : Prop} (h : ¬ p) (hb : Below w.heap.size w w') : CgAns w [] p (.returned (.tuple #[.slice none 0 0, .bool false])) w' := ⟨⟨none, 0, by rw [pB_no h]; rfl, Owned.nil _ _ _⟩, hb⟩
theorem cgAns_yes {w w' : World} {V W : List Cg} {p : Prop} {R : Option Addr} {d : Nat} (h : p) (hV : V = W) (ho : Owned (fun i => w.heap.size ≤ i ∧ i < w'.heap.size) w' R W) (hb : Below w.heap.size w w') : CgAns w V p (.returned (.tuple #[.slice R W.length d, .bool true])) w' := ⟨⟨R, d, by rw [pB_yes h, hV], by rw [hV]; exact ho⟩, hb⟩
theorem cgAns_no {w w' : World} {V : List Cg} {p : Prop} (h : ¬ p) (hV : V = []) (hb : Below w.heap.size w w') : CgAns w V p (.returned (.tuple #[.slice none 0 0, .bool false])) w' := by
  rw [hV]
  exact cgAns_nil h hb
theorem pair_parts {w : World} {A : Option Addr} {ch : Nat} {hs : List Cg} {g k : Nat} (h0 : w.cell? ⟨g, 0, none⟩ = some (.slice A hs.length ch)) (h1 : w.cell? ⟨g, 1, none⟩ = some (.slice (some ⟨k, 0, none⟩) 1 1)) (hg : g < w.heap.size) (x : Cg) : Lst w w.heap.size (some ⟨g, 0, none⟩) [(⟨A, ch, hs⟩ : SlC), ⟨some ⟨k, 0, none⟩, 1, [x]⟩] := fun _ => by
  refine ⟨g, 0, rfl, hg, fun i hi j v hv => ?_⟩
  have hi' : i < 2 := hi
  have hj : j < 1 := (List.getElem?_eq_some_iff.1 hv).1
  obtain rfl : j = 0 := by omega
  rcases (show i = 0 ∨ i = 1 by omega) with rfl | rfl
  · obtain rfl := Option.some.inj hv
    exact h0
  · obtain rfl := Option.some.inj hv
    exact h1
theorem one_part {w : World} {k : Nat} {x : Cg} (h : CgBx w k x) (hk : k < w.heap.size) : Lst w w.heap.size (some ⟨k, 0, none⟩) [x] := fun _ => by
  refine ⟨k, 0, rfl, hk, fun i hi j v hv => ?_⟩
  obtain rfl : i = 0 := by simpa using hi
  have hj : j < 6 := (List.getElem?_eq_some_iff.1 hv).1
  rw [Nat.zero_mul, Nat.add_zero, Nat.zero_add]
  rcases (show j = 0 ∨ j = 1 ∨ j = 2 ∨ j = 3 ∨ j = 4 ∨ j = 5 by omega) with rfl | rfl | rfl | rfl | rfl | rfl
  · obtain rfl := Option.some.inj hv; exact h.c0
  · obtain rfl := Option.some.inj hv; exact h.c1
  · obtain rfl := Option.some.inj hv; exact h.c2
  · obtain rfl := Option.some.inj hv; exact h.c3
  · obtain rfl := Option.some.inj hv; exact h.c4
  · obtain rfl := Option.some.inj hv; exact h.c5
theorem new_two (w : World) (b : Nat) (u v : Value) (t : TypeId) (hb : w.heap.size = b) : (w.alloc (.cells #[u, v] t)).cell? ⟨b, 0, none⟩ = some u ∧ (w.alloc (.cells #[u, v] t)).cell? ⟨b, 1, none⟩ = some v := by
  subst hb
  constructor <;> simp
theorem concat_two (A : Option Addr) (ch : Nat) (hs : List Cg) (k g : Nat) (x : Cg) (W : World) (hg : Lst W W.heap.size A hs) (hgl : hs.length ≤ 1048576) (h0 : W.cell? ⟨g, 0, none⟩ = some (.slice A hs.length ch)) (h1 : W.cell? ⟨g, 1, none⟩ = some (.slice (some ⟨k, 0, none⟩) 1 1)) (hx : CgBx W k x) (hk : k < W.heap.size) (hgW : g < W.heap.size) :
    Calls Try.prog 63 #[.slice (some ⟨g, 0, none⟩) 2 2] W fun e w' => (∃ R d, e = .returned (.slice R (hs ++ [x]).length d) ∧ ((hs ++ [x]).length ≤ d ∧ d ≤ 9223372036854775807) ∧ Owned (fun i => W.heap.size ≤ i ∧ i < w'.heap.size) w' R (hs ++ [x])) ∧ Below W.heap.size W w' := by
  have hcat : catTo [(⟨A, ch, hs⟩ : SlC), ⟨some ⟨k, 0, none⟩, 1, [x]⟩] 2 = hs ++ [x] := by simp [catTo, it]
  have hl : (hs ++ [x]).length = hs.length + 1 := by simp
  have h := concatCg_any (some ⟨g, 0, none⟩) 2 [(⟨A, ch, hs⟩ : SlC), ⟨some ⟨k, 0, none⟩, 1, [x]⟩] W (pair_parts h0 h1 hgW x) (fun i hi => by
    have hi' : i < 2 := hi
    rcases (show i = 0 ∨ i = 1 by omega) with rfl | rfl
    · exact hg
    · exact one_part hx hk) (by simp) (by simp) (by rw [show [(⟨A, ch, hs⟩ : SlC), ⟨some ⟨k, 0, none⟩, 1, [x]⟩].length = 2 from rfl, hcat, hl]; omega)
  rwa [show [(⟨A, ch, hs⟩ : SlC), ⟨some ⟨k, 0, none⟩, 1, [x]⟩].length = 2 from rfl, hcat] at h
set_option maxHeartbeats 1000000 in
set_option maxRecDepth 100000 in
theorem iAddChange_a (P : Option Addr) (c : Nat) (xs : List Im) (A : Option Addr) (ch : Nat) (hs : List Cg) (x : Cg) (w : World) (hr : Ims w w.heap.size P xs) (hl : ImsFits xs) (hg : Lst w w.heap.size A hs) (hgl : hs.length ≤ 1048576) :
    Calls Try.prog 33 #[.slice P xs.length c, .slice A hs.length ch, x.val] w (CgAns w (adF xs hs x) (AdOk xs hs x)) := by
  have HR := Lib.hid hr
  have HF := Lib.hid hl
  have HG := Lib.hid hg
  have hlen : (hs ++ [x]).length = hs.length + 1 := by simp
  obtain ⟨ls, hls⟩ : ∃ ls, ls = hs ++ [x] := ⟨_, rfl⟩
  rw [← hls] at hlen
  have HLN := Lib.hid hlen
  have HLS := Lib.hid hls
  clear hr hl hg hlen
  unfold Cg.val CgAns
  by_cases hok : AdOk xs hs x
  · have HPB := Lib.hid (show pB (HiOk xs ls) = true from by rw [hls]; exact pB_yes hok)
    rw [pB_yes hok, adF_yes hok, ← hls]
    clear hok hls
    go_enter Try.func33, Try.ntmps33
    go_wp2_with fail
    generalize hW : World.alloc (World.alloc (World.alloc w _) _) _ = W
    have hB : Below w.heap.size w W := by
      rw [← hW]
      go_grown
    have hS : W.heap.size = w.heap.size + 3 := by rw [← hW]; simp
    have hx : CgBx W (w.heap.size + 1) x := by
      rw [← hW]
      have h1 := cgBx_new (w.alloc (x.obj 50)) x 50
      rw [show (w.alloc (x.obj 50)).heap.size = w.heap.size + 1 by simp] at h1
      exact h1.below (below_alloc _ _) (by simp)
    have hp0 : W.cell? ⟨w.heap.size + 1 + 1, 0, none⟩ = some (.slice A hs.length ch) ∧ W.cell? ⟨w.heap.size + 1 + 1, 1, none⟩ = some (.slice (some ⟨w.heap.size + 1, 0, none⟩) 1 1) := by
      rw [← hW]
      exact new_two _ _ _ _ _ (by simp)
    have HCC := Lib.hid (concat_two A ch hs (w.heap.size + 1) (w.heap.size + 1 + 1) x W ((HG.out.below hB (Nat.le_refl _)).up hB.size) hgl hp0.1 hp0.2 hx (by omega) (by omega))
    rw [← HLS.out] at HCC
    have HB := Lib.hid hB
    clear hW hB hx hp0
    refine HCC.out.mono ?_
    rintro e w2 ⟨⟨R, d, rfl, hd, ho⟩, hb2⟩
    have HB2 := Lib.hid (Below_next HB.out hb2)
    have HO2 := Lib.hid ho
    have hW2 := HB.out.size
    have HRC := Lib.hid (recordsOf_w P c xs R d ls w2 (HR.out.next (Below_next HB.out hb2)) HF.out ho.lst (by rw [HLN.out]; omega) hd)
    rw [HPB.out] at HRC
    clear hb2 ho hd HCC
    go_wp2_with (go_at_call 48; refine HRC.out.mono ?_; rintro e w3 ⟨⟨R3, d3, rs, rfl, _⟩, hb3⟩; have HB3 := Lib.hid (Below_next HB2.out hb3); have HO3 := Lib.hid (HO2.out.keepB hb3); have hs3 := hb3.size; clear hb3)
    go_returns
    exact ⟨⟨R, d, rfl, HO3.out.mono (fun i hi => ⟨by have := hi.1; omega, Nat.lt_of_lt_of_le hi.2 hs3⟩)⟩, HB3.out⟩
  · have HPB := Lib.hid (show pB (HiOk xs ls) = false from by rw [hls]; exact pB_no hok)
    rw [pB_no hok, adF_no hok]
    clear hok hls
    go_enter Try.func33, Try.ntmps33
    go_wp2_with fail
    generalize hW : World.alloc (World.alloc (World.alloc w _) _) _ = W
    have hB : Below w.heap.size w W := by
      rw [← hW]
      go_grown
    have hS : W.heap.size = w.heap.size + 3 := by rw [← hW]; simp
    have hx : CgBx W (w.heap.size + 1) x := by
      rw [← hW]
      have h1 := cgBx_new (w.alloc (x.obj 50)) x 50
      rw [show (w.alloc (x.obj 50)).heap.size = w.heap.size + 1 by simp] at h1
      exact h1.below (below_alloc _ _) (by simp)
    have hp0 : W.cell? ⟨w.heap.size + 1 + 1, 0, none⟩ = some (.slice A hs.length ch) ∧ W.cell? ⟨w.heap.size + 1 + 1, 1, none⟩ = some (.slice (some ⟨w.heap.size + 1, 0, none⟩) 1 1) := by
      rw [← hW]
      exact new_two _ _ _ _ _ (by simp)
    have HCC := Lib.hid (concat_two A ch hs (w.heap.size + 1) (w.heap.size + 1 + 1) x W ((HG.out.below hB (Nat.le_refl _)).up hB.size) hgl hp0.1 hp0.2 hx (by omega) (by omega))
    rw [← HLS.out] at HCC
    have HB := Lib.hid hB
    clear hW hB hx hp0
    refine HCC.out.mono ?_
    rintro e w2 ⟨⟨R, d, rfl, hd, ho⟩, hb2⟩
    have HB2 := Lib.hid (Below_next HB.out hb2)
    have HO2 := Lib.hid ho
    have hW2 := HB.out.size
    have HRC := Lib.hid (recordsOf_w P c xs R d ls w2 (HR.out.next (Below_next HB.out hb2)) HF.out ho.lst (by rw [HLN.out]; omega) hd)
    rw [HPB.out] at HRC
    clear hb2 ho hd HCC
    go_wp2_with (go_at_call 48; refine HRC.out.mono ?_; rintro e w3 ⟨⟨R3, d3, rs, rfl, _⟩, hb3⟩; have HB3 := Lib.hid (Below_next HB2.out hb3); clear hb3)
    go_returns
    exact ⟨⟨none, 0, rfl, Owned.nil _ _ _⟩, HB3.out⟩
end Go.Proofs.Ythbkfekbpjkhnaa
