/- The indices of a family's elements, in the model and in the program. -/
import Derived.Test.YtjmdaecjgiafoaaGreatDoorBc
import Derived.Test.YtjmdaecjgiafoaaGreatDoorBe
import Derived.Lib.SmallJoins
import Derived.Deep.AppendLies
namespace Go.Proofs.YtjmdaecjgiafoaaGreatDoor
open Go.ChangeShapes Go.WideShapes Go.ChangeAt Go.RowKit Go.PlainAid Go.Sort
set_option linter.unusedVariables false

theorem one_news {W : World} {p : Addr} {x : Value} (h : W.cell? p = some x) : ∀ j u, [x][j]? = some u → W.cell? (p.add j) = some u := fun j u hj => by
  match j, hj with
  | 0, hj =>
    simp at hj
    subst hj
    simpa [Addr.add] using h
theorem flatMap_int (xs : List Int) : xs.flatMap Flat.cells = xs.map (Value.int .i64) := by
  induction xs with
  | nil => rfl
  | cons x r ih => rw [List.flatMap_cons, ih]; rfl
theorem own_row {w : World} {B : Nat} {v : Value} (xs : List Int) (h : w.ownsRow B 3 1 v xs.length (xs.map (Value.int .i64))) : ∃ A c, v = .slice A xs.length c ∧ Owned (fun i => B ≤ i) w A xs := by
  rcases Joins.ownsRow_forms h with ⟨rfl, h0⟩ | ⟨g, cap, rfl⟩
  · obtain rfl : xs = [] := List.eq_nil_of_length_eq_zero h0
    exact ⟨none, 0, rfl, Owned.nil _ _ _⟩
  · refine ⟨some ⟨g, 0, none⟩, cap, rfl, fun _ => ⟨g, 0, rfl, (h.lt g rfl).1, (h.lt g rfl).2, own_of_row (α := Int) (cap := cap) (e := 3) (base := B) xs ?_⟩⟩
    rw [flatMap_int]
    exact h
def famTo (xs : List El) (f : Int) : Nat → List Int
  | 0 => []
  | k + 1 => if (it xs k).fam = f then famTo xs f k ++ [(k : Int)] else famTo xs f k
theorem famTo_hit {xs : List El} {f : Int} {k : Nat} (h : (it xs k).fam = f) : famTo xs f (k + 1) = famTo xs f k ++ [(k : Int)] := by simp [famTo, h]
theorem famTo_miss {xs : List El} {f : Int} {k : Nat} (h : ¬ (it xs k).fam = f) : famTo xs f (k + 1) = famTo xs f k := by simp [famTo, h]
theorem famTo_len (xs : List El) (f : Int) : ∀ k, (famTo xs f k).length ≤ k
  | 0 => Nat.le_refl _
  | k + 1 => by
    have := famTo_len xs f k
    by_cases h : (it xs k).fam = f
    · rw [famTo_hit h, List.length_append]
      simp
      omega
    · rw [famTo_miss h]
      omega
theorem famTo_mem (xs : List El) (f : Int) : ∀ k i, i ∈ famTo xs f k → 0 ≤ i ∧ i < k
  | 0, i, h => by simp [famTo] at h
  | k + 1, i, h => by
    have ih := famTo_mem xs f k
    by_cases e : (it xs k).fam = f
    · rw [famTo_hit e] at h
      rcases List.mem_append.1 h with h | h
      · have := ih i h
        omega
      · rw [List.mem_singleton] at h
        omega
    · rw [famTo_miss e] at h
      have := ih i h
      omega
def AskOk (x : Cd) (f : Int) : Prop := CdOk x ∧ 0 ≤ f ∧ f ≤ 4
noncomputable def famR (x : Cd) (f : Int) : List Int := @ite _ (AskOk x f) (Classical.propDecidable _) (famTo x.els f x.els.length) []
theorem famR_yes {x : Cd} {f : Int} (h : AskOk x f) : famR x f = famTo x.els f x.els.length := by unfold famR; exact @if_pos _ (Classical.propDecidable _) h _ _ _
theorem famR_no {x : Cd} {f : Int} (h : ¬ AskOk x f) : famR x f = [] := by unfold famR; exact @if_neg _ (Classical.propDecidable _) h _ _ _

set_option maxHeartbeats 1000000 in
theorem iOfFamily_any (A L : Option Addr) (c d : Nat) (x : Cd) (f : Int) (w : World) (hr : CdAt w A L x) (hl : CdFits x) (ht : Tab w) :
    Calls Tryz.prog 123 #[x.val A c L d, .int .i64 f] w fun e w' => ∃ A' c', e = .returned (.tuple #[.slice A' (famR x f).length c', .bool (pB (AskOk x f))]) ∧ Owned (fun i => w.heap.size ≤ i) w' A' (famR x f) ∧ Below w.heap.size w w' := by
  obtain ⟨W, hW, hB⟩ := boxed 32 w A c L d x
  have HB := Lib.hid hB
  have HX := Lib.hid hB.at_
  have HR := Lib.hid (hr.below hB.below)
  have HL := Lib.hid hl
  have HT := Lib.hid (ht.next hB.below)
  clear hr hl hB ht
  unfold boxCd at hW
  unfold Cd.val
  obtain ⟨i0, hi, hz0, hz1, hz2⟩ := info_parts Tryz.infoInt
  have HZ := Lib.hid (And.intro hi (And.intro hz0 (And.intro hz1 hz2)))
  clear hi hz0 hz1 hz2
  go_enter Tryz.func123, Tryz.ntmps123
  go_wp2_with fail
  rw [← hW]
  clear hW
  refine (iIsCode_any A L c d x W HR.out HL.out HT.out).mono ?_
  rintro e w1 ⟨he, hb1⟩
  have HB1 := Lib.hid (Below_next HB.out.below hb1)
  have HX1 := Lib.hid (HX.out.next hb1)
  have HR1 := Lib.hid (HR.out.below hb1)
  have HT1 := Lib.hid (HT.out.next hb1)
  clear hb1
  by_cases hok : AskOk x f
  · rw [pB_yes hok.1] at he
    subst he
    have hf1 := hok.2.1
    have hf2 := hok.2.2
    have HOK := Lib.hid hok
    clear hok
    have hll := HL.out.1.1
    obtain ⟨x0, x1, x2, x3, x4, x5⟩ := HX1.out.box
    go_wp2_with (first | (go_at_call 122; refine (inBounds_yes _ _ _ _ _ HT1.out (by omega) rfl (by omega) (by omega)).mono ?_; rintro e w3 ⟨rfl, rfl⟩))
    clear x0 x1 x2 x3 x4 x5
    go_loopw [6, 20] (fun v i wr => ∃ k : Nat, k ≤ x.els.length ∧ i = .int .i64 k ∧ Below w1.heap.size w1 wr ∧ Hid (wr.ownsRow w1.heap.size 3 1 v (famTo x.els f k).length ((famTo x.els f k).map (Value.int .i64)))) (fun _ i _ => x.els.length - (intOf i).toNat)
    case atStart => exact ⟨0, Nat.zero_le _, rfl, Below.refl _ _, Lib.hid (World.ownsRow_nil w1 _ _ _)⟩
    case round =>
      obtain ⟨k, hk, rfl, hb, HO⟩ := hrel
      have HB2 := Lib.hid (Below_next HB1.out hb)
      have hsz := hb.size
      have HFL := Lib.hid (famTo_len x.els f k)
      by_cases hlt : k < x.els.length
      · obtain ⟨b, o, rfl, hbl, hc⟩ := HR1.out.els.el (by omega)
        obtain ⟨c0, c1, c2, c3⟩ := (hc k hlt).below hb hbl
        have HBR := Lib.hid hb
        clear hc hb
        by_cases he : (it x.els k).fam = f
        · have HN := Lib.hid (famTo_hit (xs := x.els) (k := k) he)
          have q1 : (it x.els k).fam ≤ f := by omega
          have q2 : f ≤ (it x.els k).fam := by omega
          clear he
          go_wp2_with (at_builtin; refine wpList_append_src _ rfl (.tmp 29) (.tmp 31) 23 rfl w1.heap.size 3 i0 (.int .i64 0) 8 Tryz.underlying23 HZ.out.1 HZ.out.2.1 HZ.out.2.2.1 HZ.out.2.2.2 rfl _ (famTo x.els f k).length ((famTo x.els f k).map (Value.int .i64)) rfl ((HO.out.alloc _).alloc _) (some ⟨wr.heap.size + 1, 0, none⟩) 1 1 [.int .i64 (k : Int)] rfl rfl (fun _ => ⟨_, rfl, one_news (by simp)⟩) (by intro u hu; simp at hu; subst hu; rfl) (by unfold maxLen; have := HFL.out; omega) (by have := HFL.out; omega) (by simp; omega) ?_; intro v1 w2 hown1 hgrow1 hat1; have HOWN1 := Lib.hid hown1; have HG1 := Lib.hid hgrow1; clear hown1 hgrow1 hat1)
          go_roundw
          case rel => exact ⟨k + 1, by omega, by go_num, Below.grown ((HBR.out.alloc hsz _).alloc (by simp; omega) _) HG1.out (by simp; omega) (fun kk e => (HO.out.lt kk e).1), Lib.hid (by rw [HN.out, List.length_append, List.map_append]; exact HOWN1.out)⟩
          case measure => simp [intOf]; omega
        · have HN := Lib.hid (famTo_miss (xs := x.els) (k := k) he)
          have q1 : (it x.els k).fam < f ∨ f < (it x.els k).fam := by omega
          clear he
          rcases q1 with q1 | q1
          all_goals
            go_wp2
            go_roundw
            case rel => exact ⟨k + 1, by omega, by go_num, HBR.out.alloc hsz _, Lib.hid (by rw [HN.out]; exact HO.out.alloc _)⟩
            case measure => simp [intOf]; omega
      · obtain rfl : k = x.els.length := by omega
        have HV := Lib.hid (famR_yes HOK.out)
        obtain ⟨A', c', rfl, ho⟩ := own_row (famTo x.els f x.els.length) HO.out
        have HO2 := Lib.hid ho
        clear hb ho HO
        go_wp2
        go_ret2
        exact ⟨A', c', by rw [HV.out, pB_yes HOK.out]; rfl, by rw [HV.out]; exact HO2.out.mono (fun i h => Nat.le_trans HB1.out.size h), HB2.out⟩
  · have HV := Lib.hid (famR_no hok)
    have HP := Lib.hid (pB_no hok)
    by_cases hc : CdOk x
    · rw [pB_yes hc] at he
      subst he
      have hf : ¬ (0 ≤ f ∧ f ≤ 4) := fun h => hok ⟨hc, h.1, h.2⟩
      clear hok hc
      go_wp2_with (first | (go_at_call 122; refine (inBounds_no _ _ _ _ _ HT1.out (by omega) rfl (by omega)).mono ?_; rintro e w3 ⟨rfl, rfl⟩))
      go_ret2
      exact ⟨none, 0, by rw [HV.out, HP.out]; rfl, by rw [HV.out]; exact Owned.nil _ _ _, HB1.out⟩
    · rw [pB_no hc] at he
      subst he
      clear hok hc
      go_wp2
      go_ret2
      exact ⟨none, 0, by rw [HV.out, HP.out]; rfl, by rw [HV.out]; exact Owned.nil _ _ _, HB1.out⟩
end Go.Proofs.YtjmdaecjgiafoaaGreatDoor
