/- A family's greatest base and its levels, in the model and in the program. -/
import Derived.Test.YtmncigeelfappaaDoorCdO
namespace Go.Proofs.YtmncigeelfappaaDoor
open Go.ChangeShapes Go.WideShapes Go.ChangeAt Go.RowKit Go.PlainAid Go.Sort
set_option linter.unusedVariables false

def gbOf (xs : List El) (l : List Int) : Int := l.foldl (fun m i => max m (it xs i.toNat).base) 0
theorem gbOf_snoc (xs : List El) (l : List Int) (i : Nat) : gbOf xs (l ++ [(i : Int)]) = max (gbOf xs l) (it xs i).base := by
  unfold gbOf
  rw [List.foldl_append]
  rfl
def lvS (xs : List El) (o : List Int) (i : Int) : List Int := o.set (it xs i.toNat).lev.toNat (it o (it xs i.toNat).lev.toNat + 1)
def lvOf (xs : List El) (l : List Int) : List Int := l.foldl (lvS xs) (List.replicate 5 0)
theorem lvOf_snoc (xs : List El) (l : List Int) (i m : Nat) (h : (it xs i).lev = m) : lvOf xs (l ++ [(i : Int)]) = (lvOf xs l).set m (it (lvOf xs l) m + 1) := by
  unfold lvOf
  rw [List.foldl_append]
  show lvS xs _ _ = _
  unfold lvS
  rw [Int.toNat_natCast, h, Int.toNat_natCast]
theorem lvOf_len (xs : List El) (l : List Int) : (lvOf xs l).length = 5 := by
  unfold lvOf
  have main : ∀ (l o : List Int), (l.foldl (lvS xs) o).length = o.length := by
    intro l
    induction l with
    | nil => exact fun _ => rfl
    | cons i r ih =>
      intro o
      rw [List.foldl_cons, ih]
      exact List.length_set
  rw [main]
  rfl
theorem lvOf_le (xs : List El) (l : List Int) (j : Nat) : 0 ≤ it (lvOf xs l) j ∧ it (lvOf xs l) j ≤ l.length := by
  unfold lvOf
  have main : ∀ (l o : List Int) (b : Nat), (∀ j, 0 ≤ it o j ∧ it o j ≤ b) → ∀ j, 0 ≤ it (l.foldl (lvS xs) o) j ∧ it (l.foldl (lvS xs) o) j ≤ b + l.length := by
    intro l
    induction l with
    | nil => exact fun o b h j => by simpa using h j
    | cons i r ih =>
      intro o b h j
      rw [List.foldl_cons]
      have := ih (lvS xs o i) (b + 1) (fun j => by
        unfold lvS
        have h1 := h j
        have h2 := h (it xs i.toNat).lev.toNat
        by_cases hk : (it xs i.toNat).lev.toNat < o.length
        · rw [it_set _ _ _ _ hk]
          split <;> omega
        · rw [List.set_eq_of_length_le (by omega)]
          omega) j
      simp only [List.length_cons] at *
      omega
  have := main l (List.replicate 5 0) 0 (fun j => by
    unfold it
    rw [List.getD_eq_getElem?_getD, List.getElem?_replicate]
    split <;> simp) j
  omega
theorem famR_at (x : Cd) (f : Int) (j : Nat) (hj : j < (famR x f).length) : ∃ m : Nat, it (famR x f) j = m ∧ m < x.els.length := by
  have hm : it (famR x f) j ∈ famR x f := by
    have := it_get (famR x f) j hj
    exact List.mem_of_getElem? this
  by_cases h : AskOk x f
  · rw [famR_yes h] at hm ⊢
    have h2 := famTo_mem x.els f x.els.length _ hm
    exact ⟨(it (famTo x.els f x.els.length) j).toNat, by omega, by omega⟩
  · rw [famR_no h] at hj
    simp at hj
theorem take_snoc (l : List Int) (j : Nat) (hj : j < l.length) : l.take (j + 1) = l.take j ++ [it l j] := by
  rw [List.take_succ_eq_append_getElem hj]
  have := it_get l j hj
  rw [List.getElem?_eq_getElem hj] at this
  rw [Option.some.inj this]
theorem OwnAt.next {α : Type} [Flat α] {w w' : World} {g o : Nat} {xs : List α} (h : OwnAt w g o xs) (hg : g < w.heap.size) (hb : Below w.heap.size w w') : OwnAt w' g o xs := h.block (hb.block g hg)
theorem Owned.up {α : Type} [Flat α] {w : World} {B B' : Nat} {A : Option Addr} {xs : List α} (h : Owned (fun i => B ≤ i) w A xs) (hB : B' ≤ B) : Owned (fun i => B' ≤ i) w A xs := h.mono (fun i hi => Nat.le_trans hB hi)

theorem l1Most_any (a b : Int) (w : World) : Calls Tryd.prog 52 #[.int .i64 a, .int .i64 b] w fun e w' => e = .returned (.int .i64 (max a b)) ∧ w = w' := by
  by_cases h : b < a
  · have HV := Lib.hid (show max a b = a by omega)
    go_enter Tryd.func52, Tryd.ntmps52
    go_wp2
    go_ret
    exact ⟨by rw [HV.out]; rfl, rfl⟩
  · have HV := Lib.hid (show max a b = b by omega)
    go_enter Tryd.func52, Tryd.ntmps52
    go_wp2
    go_ret
    exact ⟨by rw [HV.out]; rfl, rfl⟩

set_option maxHeartbeats 1000000 in
theorem sGreatest_any (A L : Option Addr) (c d : Nat) (x : Cd) (f : Int) (w : World) (hr : CdAt w A L x) (hl : CdFits x) :
    Calls Tryd.prog 27 #[x.val A c L d, .int .i64 f] w fun e w' => e = .returned (.tuple #[.int .i64 (gbOf x.els (famR x f)), .bool (pB (AskOk x f))]) ∧ Below w.heap.size w w' := by
  obtain ⟨W, hW, hB⟩ := boxed 30 w A c L d x
  have HB := Lib.hid hB
  have HX := Lib.hid hB.at_
  have HR := Lib.hid (hr.below hB.below)
  have HL := Lib.hid hl
  clear hr hl hB
  unfold boxCd at hW
  unfold Cd.val
  go_enter Tryd.func27, Tryd.ntmps27
  go_wp2_with fail
  rw [← hW]
  clear hW
  refine (cdAsked_any A L c d x f W HR.out HL.out).mono ?_
  rintro e w1 ⟨he, hb1⟩
  have HB1 := Lib.hid (Below_next HB.out.below hb1)
  have HX1 := Lib.hid (HX.out.next hb1)
  have HR1 := Lib.hid (HR.out.below hb1)
  clear hb1
  by_cases hok : AskOk x f
  · rw [pB_yes hok] at he
    subst he
    have HOK := Lib.hid hok
    clear hok
    have hll := HL.out.1.1
    have HFR := Lib.hid (famR_yes HOK.out)
    have HP := Lib.hid (pB_yes HOK.out)
    obtain ⟨x0, x1, x2, x3, x4, x5⟩ := HX1.out.box
    go_wp2
    clear x0 x1 x2 x3 x4 x5
    go_loopw [6, 16] (fun v i wr => ∃ k : Nat, k ≤ x.els.length ∧ i = .int .i64 k ∧ v = .int .i64 (gbOf x.els (famTo x.els f k)) ∧ Below w1.heap.size w1 wr) (fun _ i _ => x.els.length - (intOf i).toNat)
    case atStart => exact ⟨0, Nat.zero_le _, rfl, rfl, Below.refl _ _⟩
    case round =>
      obtain ⟨k, hk, rfl, rfl, hb⟩ := hrel
      have HB2 := Lib.hid (Below_next HB1.out hb)
      have hsz := hb.size
      by_cases hlt : k < x.els.length
      · obtain ⟨b, o, rfl, hbl, hc⟩ := HR1.out.els.el (by omega)
        obtain ⟨c0, c1, c2, c3⟩ := (hc k hlt).below hb hbl
        have HBR := Lib.hid hb
        clear hc hb
        by_cases he : (it x.els k).fam = f
        · have HN := Lib.hid (show gbOf x.els (famTo x.els f (k + 1)) = max (gbOf x.els (famTo x.els f k)) (it x.els k).base by rw [famTo_hit he, gbOf_snoc])
          have q1 : (it x.els k).fam ≤ f := by omega
          have q2 : f ≤ (it x.els k).fam := by omega
          clear he
          go_wp2_with (go_at_call 52; refine (l1Most_any _ _ _).mono ?_; rintro e w' ⟨rfl, rfl⟩)
          go_roundw
          case rel => exact ⟨k + 1, by omega, by go_num, by rw [HN.out], HBR.out.alloc hsz _⟩
          case measure => simp [intOf]; omega
        · have HN := Lib.hid (famTo_miss (xs := x.els) (k := k) he)
          have q1 : (it x.els k).fam < f ∨ f < (it x.els k).fam := by omega
          clear he
          rcases q1 with q1 | q1
          all_goals
            go_wp2
            go_roundw
            case rel => exact ⟨k + 1, by omega, by go_num, by rw [HN.out], HBR.out.alloc hsz _⟩
            case measure => simp [intOf]; omega
      · obtain rfl : k = x.els.length := by omega
        clear hb
        go_wp2
        go_ret2
        exact ⟨by rw [HFR.out, HP.out]; rfl, HB2.out⟩
  · rw [pB_no hok] at he
    subst he
    have HV := Lib.hid (famR_no hok)
    have HP := Lib.hid (pB_no hok)
    clear hok
    go_wp2
    go_ret2
    exact ⟨by rw [HV.out, HP.out]; rfl, HB1.out⟩

set_option maxHeartbeats 1000000 in
theorem iGreatest_any (A L : Option Addr) (c d : Nat) (x : Cd) (f : Int) (w : World) (hr : CdAt w A L x) (hl : CdFits x) (ht : Tab w) :
    Calls Tryd.prog 28 #[x.val A c L d, .int .i64 f] w fun e w' => e = .returned (.tuple #[.int .i64 (gbOf x.els (famR x f)), .bool (pB (AskOk x f))]) ∧ Below w.heap.size w w' := by
  obtain ⟨W, hW, hB⟩ := boxed 30 w A c L d x
  have HB := Lib.hid hB
  have HX := Lib.hid hB.at_
  have HR := Lib.hid (hr.below hB.below)
  have HL := Lib.hid hl
  have HT := Lib.hid (ht.next hB.below)
  clear hr hl hB ht
  unfold boxCd at hW
  unfold Cd.val
  go_enter Tryd.func28, Tryd.ntmps28
  go_wp2_with fail
  rw [← hW]
  clear hW
  refine (iOfFamily_any A L c d x f W HR.out HL.out HT.out).mono ?_
  rintro e w1 ⟨A', c', he, ho, hb1⟩
  have HB1 := Lib.hid (Below_next HB.out.below hb1)
  have HX1 := Lib.hid (HX.out.next hb1)
  have HR1 := Lib.hid (HR.out.below hb1)
  have HO1 := Lib.hid ho.lst
  have HFA := Lib.hid (famR_at x f)
  clear hb1 ho
  by_cases hok : AskOk x f
  · rw [pB_yes hok] at he
    subst he
    have HOK := Lib.hid hok
    clear hok
    have hll := HL.out.1.1
    have HP := Lib.hid (pB_yes HOK.out)
    have hfl : (famR x f).length ≤ x.els.length := by rw [famR_yes HOK.out]; exact famTo_len _ _ _
    generalize hlf : famR x f = l at *
    have HLF := Lib.hid hlf
    clear hlf
    go_wp2
    go_loopw [8, 21] (fun v i wr => ∃ k : Nat, k ≤ l.length ∧ i = .int .i64 k ∧ v = .int .i64 (gbOf x.els (l.take k)) ∧ Below w1.heap.size w1 wr) (fun _ i _ => l.length - (intOf i).toNat)
    case atStart => exact ⟨0, Nat.zero_le _, rfl, rfl, Below.refl _ _⟩
    case round =>
      obtain ⟨k, hk, rfl, rfl, hb⟩ := hrel
      have HB2 := Lib.hid (Below_next HB1.out hb)
      by_cases hlt : k < l.length
      · obtain ⟨m, hm, hmx⟩ := HFA.out k hlt
        obtain ⟨b, o, rfl, hbl, hc⟩ := HR1.out.els.el (by omega)
        obtain ⟨c0, c1, c2, c3⟩ := (hc m hmx).below hb hbl
        obtain ⟨b', o', rfl, hbl', hc'⟩ := HO1.out.int (by omega)
        have ck := (hb.cell (p := ⟨b', o' + k, none⟩) hbl').trans (hc' k hlt)
        rw [hm] at ck
        have x0 := (HX1.out.next hb).box.c0
        have HN := Lib.hid (show gbOf x.els (l.take (k + 1)) = if gbOf x.els (l.take k) < (it x.els m).base then (it x.els m).base else gbOf x.els (l.take k) by rw [take_snoc l k hlt, hm, gbOf_snoc]; split <;> omega)
        have hm0 : (0 : Int) ≤ (m : Int) := by omega
        have hm1 : (m : Int) < (x.els.length : Int) := by omega
        have HBR := Lib.hid hb
        clear hc hb hc' hm
        go_wp2
        go_roundw
        case rel => exact ⟨k + 1, by omega, by go_num, by rw [HN.out], HBR.out⟩
        case measure => simp [intOf]; omega
      · obtain rfl : k = l.length := by omega
        have HN := Lib.hid (List.take_length (l := l))
        clear hb
        go_wp2
        go_ret2
        exact ⟨by rw [HN.out, HP.out, HLF.out]; rfl, HB2.out⟩
  · rw [pB_no hok] at he
    subst he
    have HV := Lib.hid (famR_no hok)
    have HP := Lib.hid (pB_no hok)
    clear hok
    go_wp2
    go_ret2
    exact ⟨by rw [HV.out, HP.out]; rfl, HB1.out⟩

noncomputable def lvR (x : Cd) (f : Int) : List Int := @ite _ (AskOk x f) (Classical.propDecidable _) (lvOf x.els (famR x f)) []
theorem lvR_yes {x : Cd} {f : Int} (h : AskOk x f) : lvR x f = lvOf x.els (famR x f) := by unfold lvR; exact @if_pos _ (Classical.propDecidable _) h _ _ _
theorem lvR_no {x : Cd} {f : Int} (h : ¬ AskOk x f) : lvR x f = [] := by unfold lvR; exact @if_neg _ (Classical.propDecidable _) h _ _ _
theorem own_five {w : World} {g B : Nat} {ys : List Int} (h : OwnAt w g 0 ys) (hg : g < w.heap.size) (hB : B ≤ g) : Owned (fun i => B ≤ i) w (some ⟨g, 0, none⟩) ys := fun _ => ⟨g, 0, rfl, hB, hg, h⟩

set_option maxHeartbeats 1000000 in
theorem sLevels_any (A L : Option Addr) (c d : Nat) (x : Cd) (f : Int) (w : World) (hr : CdAt w A L x) (hl : CdFits x) :
    Calls Tryd.prog 25 #[x.val A c L d, .int .i64 f] w fun e w' => ∃ A' c', e = .returned (.tuple #[.slice A' (lvR x f).length c', .bool (pB (AskOk x f))]) ∧ Owned (fun i => w.heap.size ≤ i) w' A' (lvR x f) ∧ Below w.heap.size w w' := by
  obtain ⟨i0, hi, hz0, hz1, hz2⟩ := info_parts Tryd.infoInt
  have HZ := Lib.hid (And.intro hi (And.intro hz0 (And.intro hz1 hz2)))
  have HM := Lib.hid (made_flat (α := Int) #[.int .i64 0] 0 5 rfl (by decide))
  clear hi hz0 hz1 hz2
  obtain ⟨W, hW, hB⟩ := boxed 30 w A c L d x
  have HB := Lib.hid hB
  have HX := Lib.hid hB.at_
  have HR := Lib.hid (hr.below hB.below)
  have HL := Lib.hid hl
  clear hr hl hB
  unfold boxCd at hW
  unfold Cd.val
  go_enter Tryd.func25, Tryd.ntmps25
  go_wp2_with fail
  rw [← hW]
  clear hW
  refine (cdAsked_any A L c d x f W HR.out HL.out).mono ?_
  rintro e w1 ⟨he, hb1⟩
  have HB1 := Lib.hid (Below_next HB.out.below hb1)
  have HX1 := Lib.hid (HX.out.next hb1)
  have HR1 := Lib.hid (HR.out.below hb1)
  clear hb1
  by_cases hok : AskOk x f
  · rw [pB_yes hok] at he
    subst he
    have HOK := Lib.hid hok
    clear hok
    have hll := HL.out.1.1
    have HFR := Lib.hid (famR_yes HOK.out)
    have HP := Lib.hid (pB_yes HOK.out)
    obtain ⟨x0, x1, x2, x3, x4, x5⟩ := HX1.out.box
    go_wp2_with (at_make; refine wpList_make_full _ rfl (.const (.int .i64 5)) (.const (.int .i64 5)) 23 rfl w1.heap.size 3 i0 (.int .i64 0) 1 Tryd.underlying23 HZ.out.1 HZ.out.2.1 HZ.out.2.2.1 .i64 .i64 _ _ 5 rfl rfl rfl rfl (by rw [HZ.out.2.2.2]; omega) (by unfold maxLen; omega) (Nat.le_refl _) ?_; intro w2 hown hgrow; have HW := Lib.hid (show OwnAt w2 w1.heap.size 0 (List.replicate 5 (0 : Int)) from own_of_row (α := Int) (cap := 5) (e := 3) (base := w1.heap.size) _ (by rw [← HM.out, List.length_replicate]; exact hown)); have hb2 : Below w1.heap.size w1 w2 := (Below.refl _ _).grown hgrow (Nat.le_refl _) (fun k e => by cases e); have HS2 := Lib.hid (hown.lt w1.heap.size rfl).2; have HBW := Lib.hid hb2; have HX2 := Lib.hid (HX1.out.next hb2); clear hown hgrow hb2; obtain ⟨y0, y1, y2, y3, y4, y5⟩ := HX2.out.box)
    clear x0 x1 x2 x3 x4 x5 y0 y1 y2 y3 y4 y5
    go_loopw [17] (fun i wr => ∃ k : Nat, k ≤ x.els.length ∧ i = .int .i64 k ∧ Below w1.heap.size w1 wr ∧ w1.heap.size < wr.heap.size ∧ Hid (OwnAt wr w1.heap.size 0 (lvOf x.els (famTo x.els f k)))) (fun i _ => x.els.length - (intOf i).toNat)
    case atStart => exact ⟨0, Nat.zero_le _, rfl, HBW.out, HS2.out, HW⟩
    case round =>
      obtain ⟨k, hk, rfl, hb, hgl, HO⟩ := hrel
      have HB2 := Lib.hid (Below_next HB1.out hb)
      have HSZ := Lib.hid hb.size
      by_cases hlt : k < x.els.length
      · obtain ⟨b, o, rfl, hbl, hc⟩ := HR1.out.els.el (by omega)
        obtain ⟨c0, c1, c2, c3⟩ := (hc k hlt).below hb hbl
        have HBR := Lib.hid hb
        clear hc hb
        by_cases he : (it x.els k).fam = f
        · obtain ⟨m, hm, hm5⟩ : ∃ m : Nat, (it x.els k).lev = m ∧ m < 5 := ⟨(it x.els k).lev.toNat, by have := (HOK.out.1.els.el k hlt).lev; omega, by have := (HOK.out.1.els.el k hlt).lev; omega⟩
          have HN := Lib.hid (show lvOf x.els (famTo x.els f (k + 1)) = (lvOf x.els (famTo x.els f k)).set m (it (lvOf x.els (famTo x.els f k)) m + 1) by rw [famTo_hit he, lvOf_snoc _ _ _ _ hm])
          have q1 : (it x.els k).fam ≤ f := by omega
          have q2 : f ≤ (it x.els k).fam := by omega
          have hle := lvOf_le x.els (famTo x.els f k) m
          have hfl := famTo_len x.els f k
          have hlen := lvOf_len x.els (famTo x.els f k)
          rw [hm] at c2
          generalize lvOf x.els (famTo x.els f k) = ys at *
          obtain ⟨d0, f0⟩ := HO.out.int0 m (by omega)
          have HPUT := Lib.hid ((HO.out.putInt0 m (it ys m + 1) (by omega)).next (by simpa [World.setCell] using hgl) (below_alloc (wr.setCell ⟨w1.heap.size, m, none⟩ (.int .i64 (it ys m + 1))) (.cells #[.string (it x.els k).name, .int .i64 (it x.els k).fam, .int .i64 (m : Int), .int .i64 (it x.els k).base] 49)))
          have HBA := Lib.hid ((HBR.out.setCell (p := ⟨w1.heap.size, m, none⟩) (Nat.le_refl _) (.int .i64 (it ys m + 1))).alloc (by simpa [World.setCell] using HSZ.out) (.cells #[.string (it x.els k).name, .int .i64 (it x.els k).fam, .int .i64 (m : Int), .int .i64 (it x.els k).base] 49))
          have hm0 : (0 : Int) ≤ (m : Int) := by omega
          have hm1 : (m : Int) < 5 := by omega
          obtain ⟨hle0, hle1⟩ := hle
          clear he hm hlen
          have hle2 : it ys m ≤ 1048576 := by omega
          clear hle1 hfl
          go_wp2
          go_roundw
          case rel => exact ⟨k + 1, by omega, by go_num, HBA.out, by simp [World.setCell]; omega, Lib.hid (by rw [HN.out]; exact HPUT.out)⟩
          case measure => simp [intOf]; omega
        · have HN := Lib.hid (famTo_miss (xs := x.els) (k := k) he)
          have q1 : (it x.els k).fam < f ∨ f < (it x.els k).fam := by omega
          clear he
          rcases q1 with q1 | q1
          all_goals
            go_wp2
            go_roundw
            case rel => exact ⟨k + 1, by omega, by go_num, HBR.out.alloc HSZ.out _, by simp; omega, Lib.hid (by rw [HN.out]; exact HO.out.next hgl (below_alloc _ _))⟩
            case measure => simp [intOf]; omega
      · obtain rfl : k = x.els.length := by omega
        have HV := Lib.hid (lvR_yes HOK.out)
        have HLN := Lib.hid (lvOf_len x.els (famR x f))
        clear hb
        go_wp2
        go_ret2
        exact ⟨some ⟨w1.heap.size, 0, none⟩, 5, by rw [HV.out, HP.out, HLN.out]; rfl, by rw [HV.out, HFR.out]; exact own_five HO.out hgl HB1.out.size, HB2.out⟩
  · rw [pB_no hok] at he
    subst he
    have HV := Lib.hid (lvR_no hok)
    have HP := Lib.hid (pB_no hok)
    clear hok
    go_wp2
    go_ret2
    exact ⟨none, 0, by rw [HV.out, HP.out]; rfl, by rw [HV.out]; exact Owned.nil _ _ _, HB1.out⟩

set_option maxHeartbeats 1000000 in
theorem iLevels_any (A L : Option Addr) (c d : Nat) (x : Cd) (f : Int) (w : World) (hr : CdAt w A L x) (hl : CdFits x) (ht : Tab w) :
    Calls Tryd.prog 26 #[x.val A c L d, .int .i64 f] w fun e w' => ∃ A' c', e = .returned (.tuple #[.slice A' (lvR x f).length c', .bool (pB (AskOk x f))]) ∧ Owned (fun i => w.heap.size ≤ i) w' A' (lvR x f) ∧ Below w.heap.size w w' := by
  obtain ⟨i0, hi, hz0, hz1, hz2⟩ := info_parts Tryd.infoInt
  have HZ := Lib.hid (And.intro hi (And.intro hz0 (And.intro hz1 hz2)))
  have HM := Lib.hid (made_flat (α := Int) #[.int .i64 0] 0 5 rfl (by decide))
  clear hi hz0 hz1 hz2
  obtain ⟨W, hW, hB⟩ := boxed 30 w A c L d x
  have HB := Lib.hid hB
  have HX := Lib.hid hB.at_
  have HR := Lib.hid (hr.below hB.below)
  have HL := Lib.hid hl
  have HT := Lib.hid (ht.next hB.below)
  clear hr hl hB ht
  unfold boxCd at hW
  unfold Cd.val
  go_enter Tryd.func26, Tryd.ntmps26
  go_wp2_with fail
  rw [← hW]
  clear hW
  refine (iOfFamily_any A L c d x f W HR.out HL.out HT.out).mono ?_
  rintro e w1 ⟨A', c', he, ho, hb1⟩
  have HB1 := Lib.hid (Below_next HB.out.below hb1)
  have HX1 := Lib.hid (HX.out.next hb1)
  have HR1 := Lib.hid (HR.out.below hb1)
  have HO1 := Lib.hid ho.lst
  have HFA := Lib.hid (famR_at x f)
  clear hb1 ho
  by_cases hok : AskOk x f
  · rw [pB_yes hok] at he
    subst he
    have HOK := Lib.hid hok
    clear hok
    have hll := HL.out.1.1
    have HP := Lib.hid (pB_yes HOK.out)
    have hfl : (famR x f).length ≤ x.els.length := by rw [famR_yes HOK.out]; exact famTo_len _ _ _
    have HV := Lib.hid (lvR_yes HOK.out)
    generalize hlf : famR x f = l at *
    have HLF := Lib.hid hlf
    clear hlf
    go_wp2_with (at_make; refine wpList_make_full _ rfl (.const (.int .i64 5)) (.const (.int .i64 5)) 23 rfl w1.heap.size 3 i0 (.int .i64 0) 1 Tryd.underlying23 HZ.out.1 HZ.out.2.1 HZ.out.2.2.1 .i64 .i64 _ _ 5 rfl rfl rfl rfl (by rw [HZ.out.2.2.2]; omega) (by unfold maxLen; omega) (Nat.le_refl _) ?_; intro w2 hown hgrow; have HW := Lib.hid (show OwnAt w2 w1.heap.size 0 (List.replicate 5 (0 : Int)) from own_of_row (α := Int) (cap := 5) (e := 3) (base := w1.heap.size) _ (by rw [← HM.out, List.length_replicate]; exact hown)); have hb2 : Below w1.heap.size w1 w2 := (Below.refl _ _).grown hgrow (Nat.le_refl _) (fun k e => by cases e); have HS2 := Lib.hid (hown.lt w1.heap.size rfl).2; have HBW := Lib.hid hb2; have HX2 := Lib.hid (HX1.out.next hb2); clear hown hgrow hb2; obtain ⟨y0, y1, y2, y3, y4, y5⟩ := HX2.out.box)
    clear y0 y1 y2 y3 y4 y5
    go_loopw [22] (fun i wr => ∃ k : Nat, k ≤ l.length ∧ i = .int .i64 k ∧ Below w1.heap.size w1 wr ∧ w1.heap.size < wr.heap.size ∧ Hid (OwnAt wr w1.heap.size 0 (lvOf x.els (l.take k)))) (fun i _ => l.length - (intOf i).toNat)
    case atStart => exact ⟨0, Nat.zero_le _, rfl, HBW.out, HS2.out, HW⟩
    case round =>
      obtain ⟨k, hk, rfl, hb, hgl, HO⟩ := hrel
      have HB2 := Lib.hid (Below_next HB1.out hb)
      by_cases hlt : k < l.length
      · obtain ⟨m, hm, hmx⟩ := HFA.out k hlt
        obtain ⟨v, hv, hv5⟩ : ∃ v : Nat, (it x.els m).lev = v ∧ v < 5 := ⟨(it x.els m).lev.toNat, by have := (HOK.out.1.els.el m hmx).lev; omega, by have := (HOK.out.1.els.el m hmx).lev; omega⟩
        obtain ⟨b, o, rfl, hbl, hc⟩ := HR1.out.els.el (by omega)
        obtain ⟨c0, c1, c2, c3⟩ := (hc m hmx).below hb hbl
        obtain ⟨b', o', rfl, hbl', hc'⟩ := HO1.out.int (by omega)
        have ck := (hb.cell (p := ⟨b', o' + k, none⟩) hbl').trans (hc' k hlt)
        rw [hm] at ck
        rw [hv] at c2
        have x0 := (HX1.out.next hb).box.c0
        have HN := Lib.hid (show lvOf x.els (l.take (k + 1)) = (lvOf x.els (l.take k)).set v (it (lvOf x.els (l.take k)) v + 1) by rw [take_snoc l k hlt, hm, lvOf_snoc _ _ _ _ hv])
        have hm0 : (0 : Int) ≤ (m : Int) := by omega
        have hm1 : (m : Int) < (x.els.length : Int) := by omega
        have hle := lvOf_le x.els (l.take k) v
        have hfl2 : (l.take k).length ≤ k := by rw [List.length_take]; omega
        have hlen := lvOf_len x.els (l.take k)
        generalize lvOf x.els (l.take k) = ys at *
        obtain ⟨d0, f0⟩ := HO.out.int0 v (by omega)
        have HPUT := Lib.hid (HO.out.putInt0 v (it ys v + 1) (by omega))
        have HBA := Lib.hid (hb.setCell (p := ⟨w1.heap.size, v, none⟩) (Nat.le_refl _) (.int .i64 (it ys v + 1)))
        have hv0 : (0 : Int) ≤ (v : Int) := by omega
        have hv1 : (v : Int) < 5 := by omega
        obtain ⟨hle0, hle1⟩ := hle
        have hle2 : it ys v ≤ 1048576 := by omega
        clear hc hb hc' hm hv hlen hle1 hfl2
        go_wp2
        go_roundw
        case rel => exact ⟨k + 1, by omega, by go_num, HBA.out, by simp [World.setCell]; omega, Lib.hid (by rw [HN.out]; exact HPUT.out)⟩
        case measure => simp [intOf]; omega
      · obtain rfl : k = l.length := by omega
        have HN := Lib.hid (List.take_length (l := l))
        have HLN := Lib.hid (lvOf_len x.els l)
        clear hb
        go_wp2
        go_ret2
        exact ⟨some ⟨w1.heap.size, 0, none⟩, 5, by rw [HV.out, HP.out, HLN.out]; rfl, by rw [HV.out]; have := HO.out; rw [HN.out] at this; exact own_five this hgl HB1.out.size, HB2.out⟩
  · rw [pB_no hok] at he
    subst he
    have HV := Lib.hid (lvR_no hok)
    have HP := Lib.hid (pB_no hok)
    clear hok
    go_wp2
    go_ret2
    exact ⟨none, 0, by rw [HV.out, HP.out]; rfl, by rw [HV.out]; exact Owned.nil _ _ _, HB1.out⟩
end Go.Proofs.YtmncigeelfappaaDoor
