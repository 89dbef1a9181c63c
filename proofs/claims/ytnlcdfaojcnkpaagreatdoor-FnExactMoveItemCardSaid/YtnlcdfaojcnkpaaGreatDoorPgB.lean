/- BrokenRules and IsProgramme, in the model and in the program. -/
import Derived.Test.YtnlcdfaojcnkpaaGreatDoorBh
namespace Go.Proofs.YtnlcdfaojcnkpaaGreatDoor
open Go.ChangeShapes Go.WideShapes Go.ChangeAt Go.RowKit Go.PlainAid
set_option linter.unusedVariables false

/-- The first k rules that do not hold. -/
noncomputable def brk (x : Cd) (xs : List Im) : Nat → List Int
  | 0 => []
  | k + 1 => @ite _ (RuleP x xs (k + 1)) (Classical.propDecidable _) (brk x xs k) (brk x xs k ++ [(k : Int) + 1])
theorem brk_yes {x : Cd} {xs : List Im} {k : Nat} (h : RuleP x xs (k + 1)) : brk x xs (k + 1) = brk x xs k := by rw [brk]; exact @if_pos _ (Classical.propDecidable _) h _ _ _
theorem brk_no {x : Cd} {xs : List Im} {k : Nat} (h : ¬ RuleP x xs (k + 1)) : brk x xs (k + 1) = brk x xs k ++ [(k : Int) + 1] := by rw [brk]; exact @if_neg _ (Classical.propDecidable _) h _ _ _
theorem brk_len (x : Cd) (xs : List Im) : ∀ k, (brk x xs k).length ≤ k
  | 0 => Nat.le_refl _
  | k + 1 => by
    have := brk_len x xs k
    by_cases h : RuleP x xs (k + 1)
    · rw [brk_yes h]; omega
    · rw [brk_no h, List.length_append]; simp; omega
theorem brk_none (x : Cd) (xs : List Im) : ∀ k, ((brk x xs k).length = 0 ↔ ∀ j, j < k → RuleP x xs (j + 1))
  | 0 => ⟨fun _ j hj => absurd hj (by omega), fun _ => rfl⟩
  | k + 1 => by
    by_cases h : RuleP x xs (k + 1)
    · rw [brk_yes h, brk_none x xs k]
      exact ⟨fun q j hj => by
        rcases Nat.lt_or_ge j k with h' | h'
        · exact q j h'
        · obtain rfl : j = k := by omega
          exact h, fun q j hj => q j (by omega)⟩
    · rw [brk_no h, List.length_append]
      exact ⟨fun q => by simp at q, fun q => absurd (q k (by omega)) h⟩
theorem flatMap_int (xs : List Int) : xs.flatMap Flat.cells = xs.map (Value.int .i64) := by
  induction xs with
  | nil => rfl
  | cons x r ih =>
    rw [List.flatMap_cons, List.map_cons, ih]
    rfl
theorem int_ones (xs : List Int) : ∀ u ∈ xs.map (Value.int .i64), u.oneCell' = true := fun u hu => by
  obtain ⟨x, _, rfl⟩ := List.mem_map.1 hu
  rfl
theorem int_news {W : World} {b : Nat} {v : Int} (h : W.cell? ⟨b, 0, none⟩ = some (.int .i64 v)) : ∀ j u, ([v].map (Value.int .i64))[j]? = some u → W.cell? ((⟨b, 0, none⟩ : Addr).add j) = some u := fun j u hj => by
  match j, hj with
  | 0, hj => obtain rfl := Option.some.inj hj; exact h
/-- The answer of BrokenRules. -/
noncomputable def bfF (x : Cd) (xs : List Im) : List Int := @ite _ (PgAsk x xs) (Classical.propDecidable _) (brk x xs 8) []
theorem bfF_yes {x : Cd} {xs : List Im} (h : PgAsk x xs) : bfF x xs = brk x xs 8 := by unfold bfF; exact @if_pos _ (Classical.propDecidable _) h _ _ _
theorem bfF_no {x : Cd} {xs : List Im} (h : ¬ PgAsk x xs) : bfF x xs = [] := by unfold bfF; exact @if_neg _ (Classical.propDecidable _) h _ _ _
theorem bfF_len (x : Cd) (xs : List Im) : (bfF x xs).length ≤ 1048576 := by
  by_cases h : PgAsk x xs
  · rw [bfF_yes h]
    have := brk_len x xs 8
    omega
  · rw [bfF_no h]
    simp
/-- A programme. -/
structure PgOk (x : Cd) (xs : List Im) : Prop where
  ask : PgAsk x xs
  all : ∀ j, j < 8 → RuleP x xs (j + 1)
theorem pgOk_iff {x : Cd} {xs : List Im} (h : PgAsk x xs) : (brk x xs 8).length = 0 ↔ PgOk x xs := ⟨fun q => ⟨h, (brk_none x xs 8).1 q⟩, fun q => (brk_none x xs 8).2 q.all⟩
theorem own_formI {w : World} {B : Nat} {e : TypeId} {v : Value} (ys : List Int) (h : w.ownsRow B e 1 v ys.length (ys.map (Value.int .i64))) : ∃ R d, v = .slice R ys.length d ∧ Owned (fun i => B ≤ i ∧ i < w.heap.size) w R ys := by
  rcases h.2 with ⟨hv, h0⟩ | ⟨g, cap, cur, rfl, h3, h4, h5⟩
  · exact ⟨none, 0, by rw [hv, h0], fun hp => absurd hp (by omega)⟩
  · have hlt := h.lt g rfl
    exact ⟨some ⟨g, 0, none⟩, cap, rfl, fun _ => ⟨g, 0, rfl, ⟨hlt.1, hlt.2⟩, hlt.2, own_of_row (α := Int) (cap := cap) (e := e) (base := B) ys (by rw [flatMap_int]; exact h)⟩⟩

set_option maxHeartbeats 1000000 in
theorem pgFaults_any (A L : Option Addr) (c d : Nat) (x : Cd) (P : Option Addr) (c1 : Nat) (xs : List Im) (w : World) (hr : CdAt w A L x) (hl : CdFits x) (hp : Ims w w.heap.size P xs) (hq : ImsFits xs) (hk : PgAsk x xs) :
    Calls Tryz.prog 68 #[x.val A c L d, .slice P xs.length c1] w fun e w' => (∃ R d, e = .returned (.slice R (brk x xs 8).length d) ∧ Owned (fun i => w.heap.size ≤ i ∧ i < w'.heap.size) w' R (brk x xs 8)) ∧ Below w.heap.size w w' := by
  obtain ⟨i0, hi, hz0, hz1, hz2⟩ := info_parts Tryz.infoInt
  have HZ := Lib.hid (And.intro hi (And.intro hz0 (And.intro hz1 hz2)))
  obtain ⟨W, hW, hB⟩ := boxed 38 w A c L d x
  have HB := Lib.hid hB.below
  have HX := Lib.hid hB.at_
  have HR := Lib.hid (hr.below hB.below)
  have HP := Lib.hid (hp.next hB.below)
  have HL := Lib.hid hl
  have HQ := Lib.hid hq
  have HK := Lib.hid hk
  clear hr hl hp hq hB hk hi hz0 hz1 hz2
  unfold boxCd at hW
  unfold Cd.val
  go_enter Tryz.func68, Tryz.ntmps68
  go_wp2_with fail
  rw [← hW]
  clear hW
  go_loopw [5, 6] (fun v i wr => ∃ k : Nat, k ≤ 8 ∧ i = .int .i64 ((k : Int) + 1) ∧ Hid (Below W.heap.size W wr) ∧ Hid (wr.ownsRow W.heap.size 3 1 v (brk x xs k).length ((brk x xs k).map (Value.int .i64)))) (fun _ i _ => 9 - (intOf i).toNat)
  case atStart => exact ⟨0, Nat.zero_le _, rfl, Lib.hid (Below.refl _ _), Lib.hid ⟨rfl, .inl ⟨rfl, rfl⟩⟩⟩
  case round =>
    obtain ⟨k, hk, rfl, HBR, HO⟩ := hrel
    by_cases hlt : k < 8
    · obtain ⟨x0, x1, x2, x3, x4, x5⟩ := (HX.out.next HBR.out).box
      have hle := brk_len x xs k
      have HC := Lib.hid (pgHolds_any A L c d x P c1 xs (k + 1) wr (HR.out.below HBR.out) HL.out (HP.out.next HBR.out) HQ.out HK.out (by omega) (by omega))
      rw [show ((k + 1 : Nat) : Int) = (k : Int) + 1 by omega] at HC
      go_wp2_with fail
      clear x0 x1 x2 x3 x4 x5
      refine HC.out.mono ?_
      rintro e w2 ⟨he, hb2⟩
      have HB2 := Lib.hid (Below_next HBR.out hb2)
      have HOW := Lib.hid (own_next HO.out hb2)
      have hbs := HB2.out.size
      clear hb2 HC
      by_cases hq : RuleP x xs (k + 1)
      · rw [pB_yes hq] at he
        subst he
        have HV := Lib.hid (brk_yes hq)
        clear hq
        go_wp2
        go_roundw
        case rel => exact ⟨k + 1, by omega, by go_num, HB2, by rw [HV.out]; exact HOW⟩
        case measure => simp [intOf]; omega
      · rw [pB_no hq] at he
        subst he
        have HV := Lib.hid (brk_no hq)
        clear hq
        go_wp2_with (at_builtin; refine wpList_append_src _ rfl (.tmp 16) (.tmp 18) 23 rfl W.heap.size 3 i0 (.int .i64 0) 8 Tryz.underlying23 HZ.out.1 HZ.out.2.1 HZ.out.2.2.1 HZ.out.2.2.2 rfl _ (brk x xs k).length ((brk x xs k).map (Value.int .i64)) rfl (HOW.out.alloc _) (some ⟨w2.heap.size, 0, none⟩) 1 1 ([(k : Int) + 1].map (Value.int .i64)) rfl rfl (fun _ => ⟨_, rfl, int_news (by simp)⟩) (int_ones _) (by unfold maxLen; omega) (by omega) (by simp; omega) ?_; intro v1 w4 hown hgrow hat)
        have hb4 : Below W.heap.size W w4 := Below.grown (below_next HB2.out (below_alloc _ _)) hgrow (by simp; omega) (fun m e => (HOW.out.lt m e).1)
        have HB4 := Lib.hid hb4
        have HOWN := Lib.hid (show w4.ownsRow W.heap.size 3 1 v1 (brk x xs (k + 1)).length ((brk x xs (k + 1)).map (Value.int .i64)) from by
          rw [HV.out, List.length_append, List.map_append]
          exact hown)
        clear hown hgrow hat hb4
        go_wp2
        go_roundw
        case rel => exact ⟨k + 1, by omega, by go_num, HB4, HOWN⟩
        case measure => simp [intOf]; omega
    · obtain rfl : k = 8 := by omega
      obtain ⟨R, d1, rfl, ho⟩ := own_formI _ HO.out
      have hs := HB.out.size
      have HOO := Lib.hid (ho.mono (T := fun i => w.heap.size ≤ i ∧ i < wr.heap.size) (fun i hi => ⟨by omega, hi.2⟩))
      clear ho
      go_wp2
      go_returns
      exact ⟨⟨R, d1, rfl, HOO.out⟩, Below_next HB.out HBR.out⟩

set_option maxHeartbeats 1000000 in
theorem pgGood_any (A L : Option Addr) (c d : Nat) (x : Cd) (P : Option Addr) (c1 : Nat) (xs : List Im) (w : World) (hr : CdAt w A L x) (hl : CdFits x) (hp : Ims w w.heap.size P xs) (hq : ImsFits xs) :
    Calls Tryz.prog 34 #[x.val A c L d, .slice P xs.length c1] w fun e w' => e = .returned (.bool (pB (PgOk x xs))) ∧ Below w.heap.size w w' := by
  obtain ⟨W, hW, hB⟩ := boxed 38 w A c L d x
  have HB := Lib.hid hB.below
  have HX := Lib.hid hB.at_
  have HR := Lib.hid (hr.below hB.below)
  have HP := Lib.hid (hp.next hB.below)
  have HL := Lib.hid hl
  have HQ := Lib.hid hq
  clear hr hl hp hq hB
  unfold boxCd at hW
  unfold Cd.val
  go_enter Tryz.func34, Tryz.ntmps34
  obtain ⟨x0, x1, x2, x3, x4, x5⟩ := HX.out.box
  rw [hW] at x0 x1 x2 x3 x4 x5
  go_wp2_with fail
  rw [← hW]
  clear hW x0 x1 x2 x3 x4 x5
  refine (pgAsked_any A L c d x P c1 xs W HR.out HL.out HP.out HQ.out).mono ?_
  rintro e w1 ⟨he, hb1⟩
  have HB1 := Lib.hid hb1
  clear hb1
  by_cases hok : PgAsk x xs
  · rw [pB_yes hok] at he
    subst he
    have HK := Lib.hid hok
    have HI := Lib.hid (pgOk_iff hok)
    have hle := brk_len x xs 8
    clear hok
    obtain ⟨x0, x1, x2, x3, x4, x5⟩ := (HX.out.next HB1.out).box
    go_wp2_with fail
    clear x0 x1 x2 x3 x4 x5
    refine (pgFaults_any A L c d x P c1 xs w1 (HR.out.below HB1.out) HL.out (HP.out.next HB1.out) HQ.out HK.out).mono ?_
    rintro e w2 ⟨⟨R, d1, rfl, ho⟩, hb2⟩
    have HB2 := Lib.hid (Below_next HB1.out hb2)
    clear hb2 ho
    generalize (brk x xs 8).length = n at HI hle ⊢
    by_cases h0 : n = 0
    · have HV := Lib.hid (pB_yes (HI.out.1 h0))
      subst h0
      go_wp2
      go_ret
      exact ⟨by rw [HV.out]; first | rfl | (simp; omega), Below_next HB.out HB2.out⟩
    · have HV := Lib.hid (pB_no (fun q => h0 (HI.out.2 q)))
      have h0' : ((n : Int) == 0) = false := by simp; omega
      clear h0
      go_wp2
      go_ret
      exact ⟨by rw [HV.out]; first | rfl | (simp; omega), Below_next HB.out HB2.out⟩
  · rw [pB_no hok] at he
    subst he
    have HV := Lib.hid (pB_no (fun q : PgOk x xs => hok q.ask))
    clear hok
    go_wp2
    go_ret
    exact ⟨by rw [HV.out]; rfl, Below_next HB.out HB1.out⟩
/-- The answer of IsProgramme. -/
noncomputable def ipV (x : Cd) (xs : List Im) : Value := .tuple #[.bool (pB (PgOk x xs)), .bool (pB (PgAsk x xs))]
theorem ipV_form (x : Cd) (xs : List Im) : ∃ p q : Bool, ipV x xs = .tuple #[.bool p, .bool q] := ⟨_, _, rfl⟩
end Go.Proofs.YtnlcdfaojcnkpaaGreatDoor
