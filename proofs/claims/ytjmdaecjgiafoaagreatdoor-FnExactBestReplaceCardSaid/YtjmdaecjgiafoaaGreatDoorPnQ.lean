/- BestReplace on both sides. -/
import Derived.Test.YtjmdaecjgiafoaaGreatDoorPnM
import Derived.Test.YtjmdaecjgiafoaaGreatDoorPnO
namespace Go.Proofs.YtjmdaecjgiafoaaGreatDoor
open Go.ChangeShapes Go.WideShapes Go.ChangeAt Go.RowKit Go.PlainAid
set_option linter.unusedVariables false

structure Br where
  k : Nat
  i : Nat
  m : Int
noncomputable def brStep (x : Cd) (xs : List Im) (k i : Nat) (s : Br) : Br := @ite _ (PgOk x (rplS xs k (it x.els i).name) ∧ s.m < rgI x xs k (it x.els i).name) (Classical.propDecidable _) ⟨k, i, rgI x xs k (it x.els i).name⟩ s
theorem brStep_yes {x : Cd} {xs : List Im} {k i : Nat} {s : Br} (h1 : PgOk x (rplS xs k (it x.els i).name)) (h2 : s.m < rgI x xs k (it x.els i).name) : brStep x xs k i s = ⟨k, i, rgI x xs k (it x.els i).name⟩ := by unfold brStep; exact @if_pos _ (Classical.propDecidable _) ⟨h1, h2⟩ _ _ _
theorem brStep_no {x : Cd} {xs : List Im} {k i : Nat} {s : Br} (h : ¬ (PgOk x (rplS xs k (it x.els i).name) ∧ s.m < rgI x xs k (it x.els i).name)) : brStep x xs k i s = s := by unfold brStep; exact @if_neg _ (Classical.propDecidable _) h _ _ _
noncomputable def brRow (x : Cd) (xs : List Im) (k : Nat) (s : Br) : Nat → Br
  | 0 => s
  | i + 1 => brStep x xs k i (brRow x xs k s i)
noncomputable def brTo (x : Cd) (xs : List Im) : Nat → Br
  | 0 => ⟨0, 0, 0⟩
  | k + 1 => brRow x xs k (brTo x xs k) x.els.length
theorem rgI_le {x : Cd} {xs : List Im} {k : Nat} {n : ByteArray} (h : BsOk x xs) (h2 : PgOk x (rplS xs k n)) : -102000 ≤ rgI x xs k n ∧ rgI x xs k n ≤ 102000 := by
  have h3 := pbI_bound h
  have h4 := pbI_bound (pg_known h2)
  unfold rgI
  omega
structure BrOk (x : Cd) (xs : List Im) (s : Br) : Prop where
  k : s.k ≤ 100
  i : s.i ≤ 100
  lo : 0 ≤ s.m
  hi : s.m ≤ 102000
theorem brStep_ok {x : Cd} {xs : List Im} {k i : Nat} {s : Br} (hb : BsOk x xs) (h : BrOk x xs s) (hk : k < xs.length) (hi : i < x.els.length) : BrOk x xs (brStep x xs k i s) := by
  have h1 := hb.list.len
  have h2 := hb.cd.els.hi
  have h5 := h.lo
  rcases Classical.em (PgOk x (rplS xs k (it x.els i).name) ∧ s.m < rgI x xs k (it x.els i).name) with q | q
  · rw [brStep_yes q.1 q.2]
    have h3 := rgI_le hb q.1
    have h4 := q.2
    exact ⟨by show k ≤ 100; omega, by show i ≤ 100; omega, by show 0 ≤ rgI _ _ _ _; omega, h3.2⟩
  · rw [brStep_no q]
    exact h
theorem brRow_ok {x : Cd} {xs : List Im} {k : Nat} {s : Br} (hb : BsOk x xs) (h : BrOk x xs s) (hk : k < xs.length) : ∀ i, i ≤ x.els.length → BrOk x xs (brRow x xs k s i)
  | 0, _ => h
  | i + 1, hi => brStep_ok hb (brRow_ok hb h hk i (by omega)) hk (by omega)
theorem brTo_ok {x : Cd} {xs : List Im} (hb : BsOk x xs) : ∀ k, k ≤ xs.length → BrOk x xs (brTo x xs k)
  | 0, _ => ⟨by show 0 ≤ 100; omega, by show 0 ≤ 100; omega, Int.le_refl 0, by show (0 : Int) ≤ 102000; omega⟩
  | k + 1, hk => brRow_ok hb (brTo_ok hb k (by omega)) (by omega) _ (Nat.le_refl _)
def brT (s : Br) : Value := .tuple #[.int .i64 s.k, .int .i64 s.i, .int .i64 s.m, .bool (decide (0 < s.m))]
noncomputable def brV (x : Cd) (xs : List Im) : Value := @ite _ (PgOk x xs) (Classical.propDecidable _) (brT (brTo x xs xs.length)) (.tuple #[.int .i64 0, .int .i64 0, .int .i64 0, .bool false])
theorem brV_yes {x : Cd} {xs : List Im} (h : PgOk x xs) : brV x xs = brT (brTo x xs xs.length) := by unfold brV; exact @if_pos _ (Classical.propDecidable _) h _ _ _
theorem brV_no {x : Cd} {xs : List Im} (h : ¬ PgOk x xs) : brV x xs = .tuple #[.int .i64 0, .int .i64 0, .int .i64 0, .bool false] := by unfold brV; exact @if_neg _ (Classical.propDecidable _) h _ _ _
theorem brV_form (x : Cd) (xs : List Im) : ∃ (a b c : Int) (q : Bool), brV x xs = .tuple #[.int .i64 a, .int .i64 b, .int .i64 c, .bool q] := by
  rcases Classical.em (PgOk x xs) with h | h
  · exact ⟨_, _, _, _, brV_yes h⟩
  · exact ⟨_, _, _, _, brV_no h⟩
theorem brStep_same {x : Cd} {xs ys : List Im} (h : SameS xs ys) (k i : Nat) (hk : k < xs.length) (s : Br) : brStep x xs k i s = brStep x ys k i s := by
  have e1 := rgI_same (x := x) h k (it x.els i).name hk
  have e2 := rplS_same h k (it x.els i).name hk
  rcases Classical.em (PgOk x (rplS xs k (it x.els i).name) ∧ s.m < rgI x xs k (it x.els i).name) with q | q
  · rw [brStep_yes q.1 q.2, brStep_yes (q.1.same e2) (by rw [← e1]; exact q.2), e1]
  · rw [brStep_no q, brStep_no (fun p => q ⟨p.1.same e2.symm, by rw [e1]; exact p.2⟩)]
theorem brRow_same {x : Cd} {xs ys : List Im} (h : SameS xs ys) (k : Nat) (hk : k < xs.length) (s : Br) : ∀ i, brRow x xs k s i = brRow x ys k s i
  | 0 => rfl
  | i + 1 => by rw [brRow, brRow, brRow_same h k hk s i, brStep_same h k i hk]
theorem brTo_same {x : Cd} {xs ys : List Im} (h : SameS xs ys) : ∀ k, k ≤ xs.length → brTo x xs k = brTo x ys k
  | 0, _ => rfl
  | k + 1, hk => by rw [brTo, brTo, brTo_same h k (by omega), brRow_same h k (by omega)]
theorem brV_same {x : Cd} {xs ys : List Im} (h : SameS xs ys) : brV x xs = brV x ys := by
  rcases Classical.em (PgOk x xs) with q | q
  · rw [brV_yes q, brV_yes (q.same h), brTo_same h _ (Nat.le_refl _), h.len]
  · rw [brV_no q, brV_no (fun p => q (p.same h.symm))]
theorem rgV_go {x : Cd} {xs : List Im} {k : Nat} {n : ByteArray} (hok : PgOk x xs) (hk : k < xs.length) : rgV x xs k n = goV x xs k n := ansV_congr ⟨fun h => h.new, fun h => ⟨hok, by omega, by omega, h⟩⟩ (fun _ => rfl)

set_option maxRecDepth 20000 in
set_option maxHeartbeats 4000000 in
theorem iBestReplace_any (A L : Option Addr) (c d : Nat) (x : Cd) (P : Option Addr) (c1 : Nat) (xs : List Im) (w : World) (hr : CdAt w A L x) (hl : CdFits x) (hp : Ims w w.heap.size P xs) (hq : ImsFits xs) (ht : Tab w) :
    Calls Tryz.prog 26 #[x.val A c L d, .slice P xs.length c1] w fun e w' => e = .returned (brV x xs) ∧ Below w.heap.size w w' := by
  obtain ⟨W, hW, hB⟩ := boxed 32 w A c L d x
  have HB := Lib.hid hB.below
  have HX := Lib.hid hB.at_
  have HR := Lib.hid (hr.below hB.below)
  have HP := Lib.hid (hp.next hB.below)
  have HT := Lib.hid (ht.next hB.below)
  have HL := Lib.hid hl
  have HQ := Lib.hid hq
  clear hr hl hp hq hB ht
  unfold boxCd at hW
  unfold Cd.val
  go_enter Tryz.func26, Tryz.ntmps26
  go_wp2_with fail
  rw [← hW]
  clear hW
  refine (iIsProgramme_any A L c d x P c1 xs W HR.out HL.out HP.out HQ.out HT.out).mono ?_
  rintro e w1 ⟨rfl, hb1⟩
  have HB1 := Lib.hid hb1
  clear hb1
  rw [ipV_split]
  by_cases hok : PgOk x xs
  rotate_left
  · have HV := Lib.hid (show brV x xs = _ from brV_no hok)
    rw [pB_no hok]
    clear hok
    go_wp2
    go_returns
    exact ⟨by rw [HV.out] <;> rfl, Below_next HB.out HB1.out⟩
  rw [pB_yes hok]
  have HK := Lib.hid hok
  have HBS := Lib.hid (pg_known hok)
  have HV := Lib.hid (show brV x xs = _ from brV_yes hok)
  have h14 := hok.ask.ls.len
  have h24 := hok.ask.cd.els.hi
  have h01 := hok.ask.cd.els.lo
  clear hok
  obtain ⟨b, o, rfl, hbl, hce⟩ := HR.out.els.el (by omega)
  have HEL := Lib.hid (fun (w' : World) (h : Below W.heap.size W w') (i : Nat) (hi : i < x.els.length) => (hce i hi).below h hbl)
  clear hce
  go_wp2
  go_loopw [10, 11, 12, 28] (fun v1 v2 v3 v wr => ∃ k : Nat, k ≤ xs.length ∧ v = .int .i64 k ∧ v1 = .int .i64 (brTo x xs k).k ∧ v2 = .int .i64 (brTo x xs k).i ∧ v3 = .int .i64 (brTo x xs k).m ∧ Hid (Below W.heap.size W wr)) (fun _ _ _ v _ => xs.length - (intOf v).toNat)
  case atStart => exact ⟨0, Nat.zero_le _, rfl, rfl, rfl, rfl, HB1⟩
  case round =>
    obtain ⟨k, hk, rfl, rfl, rfl, rfl, HBR⟩ := hrel
    obtain ⟨wo, rfl⟩ : ∃ wo : World, wo = wr := ⟨_, rfl⟩
    by_cases hlt : k < xs.length
    · obtain ⟨x0, x1, x2, x3, x4, x5⟩ := (HX.out.next HBR.out).box
      have HBO := Lib.hid (brTo_ok HBS.out k hk)
      go_wp2
      clear x0 x1 x2 x3 x4 x5
      go_loopw [10, 11, 12, 34] (fun v1 v2 v3 v wr => ∃ i : Nat, i ≤ x.els.length ∧ v = .int .i64 i ∧ v1 = .int .i64 (brRow x xs k (brTo x xs k) i).k ∧ v2 = .int .i64 (brRow x xs k (brTo x xs k) i).i ∧ v3 = .int .i64 (brRow x xs k (brTo x xs k) i).m ∧ Hid (Below W.heap.size W wr)) (fun _ _ _ v _ => x.els.length - (intOf v).toNat)
      case atStart => exact ⟨0, Nat.zero_le _, rfl, rfl, rfl, rfl, HBR⟩
      case round =>
        clear HBR
        obtain ⟨i, hi, rfl, rfl, rfl, rfl, HBR⟩ := hrel
        by_cases hli : i < x.els.length
        · obtain ⟨c0, c1', c2, c3⟩ := HEL.out wr HBR.out i hli
          have HBO2 := brRow_ok HBS.out HBO.out hlt i hi
          obtain ⟨hr1, hr2, hr3, hr4⟩ := HBO2
          obtain ⟨S, hS⟩ : ∃ S, S = brRow x xs k (brTo x xs k) i := ⟨_, rfl⟩
          have HST := Lib.hid (show brRow x xs k (brTo x xs k) (i + 1) = brStep x xs k i S by rw [hS]; rfl)
          rw [← hS] at hr1 hr2 hr3 hr4 ⊢
          have hb4 := below_alloc wr (.cells #[.string (it x.els i).name, .int .i64 (it x.els i).fam, .int .i64 (it x.els i).lev, .int .i64 (it x.els i).base] 58)
          have HB4 := Lib.hid (HBR.out.trans (hb4.mono HBR.out.size))
          obtain ⟨x0, x1, x2, x3, x4, x5⟩ := (HX.out.next HB4.out).box
          have hnm : (it x.els i).name.size ≤ 1048576 := El.fit (HK.out.ask.cd.els.el i hli)
          have HC := Lib.hid (gainOf_any _ L c d x P c1 xs k (it x.els i).name _ (HR.out.below HB4.out) HL.out (HP.out.next HB4.out) HQ.out hnm (HT.out.next HB4.out) HK.out hlt)
          clear hS hb4
          by_cases hnew : PgOk x (rplS xs k (it x.els i).name)
          · have HGV := Lib.hid (show goV x xs k (it x.els i).name = _ from ansV_yes hnew)
            have hrg := rgI_le HBS.out hnew
            by_cases hgt : S.m < rgI x xs k (it x.els i).name
            · have HSS := Lib.hid (brStep_yes hnew hgt)
              clear hnew
              go_wp2_with (first | (go_at_call 59; refine HC.out.mono ?_; rintro e w5 ⟨he, hb⟩; rw [HGV.out] at he; subst he; have HB5 := Lib.hid (HB4.out.trans (hb.mono HB4.out.size)); clear hb))
              go_roundw
              case rel => exact ⟨i + 1, by omega, by go_num, by rw [HST.out, HSS.out], by rw [HST.out, HSS.out], by rw [HST.out, HSS.out], HB5⟩
              case measure => simp [intOf]; omega
            · have HSS := Lib.hid (brStep_no (x := x) (xs := xs) (k := k) (i := i) (s := S) (fun q => hgt q.2))
              have hgt' : rgI x xs k (it x.els i).name ≤ S.m := by omega
              clear hnew hgt
              go_wp2_with (first | (go_at_call 59; refine HC.out.mono ?_; rintro e w5 ⟨he, hb⟩; rw [HGV.out] at he; subst he; have HB5 := Lib.hid (HB4.out.trans (hb.mono HB4.out.size)); clear hb))
              go_roundw
              case rel => exact ⟨i + 1, by omega, by go_num, by rw [HST.out, HSS.out], by rw [HST.out, HSS.out], by rw [HST.out, HSS.out], HB5⟩
              case measure => simp [intOf]; omega
          · have HGV := Lib.hid (show goV x xs k (it x.els i).name = _ from ansV_no hnew)
            have HSS := Lib.hid (brStep_no (x := x) (xs := xs) (k := k) (i := i) (s := S) (fun q => hnew q.1))
            clear hnew
            go_wp2_with (first | (go_at_call 59; refine HC.out.mono ?_; rintro e w5 ⟨he, hb⟩; rw [HGV.out] at he; subst he; have HB5 := Lib.hid (HB4.out.trans (hb.mono HB4.out.size)); clear hb))
            go_roundw
            case rel => exact ⟨i + 1, by omega, by go_num, by rw [HST.out, HSS.out], by rw [HST.out, HSS.out], by rw [HST.out, HSS.out], HB5⟩
            case measure => simp [intOf]; omega
        · obtain rfl : i = x.els.length := by omega
          go_wp2
          go_roundw
          case rel => exact ⟨k + 1, by omega, by go_num, rfl, rfl, rfl, HBR⟩
          case measure => simp [intOf]; omega
    · obtain rfl : k = xs.length := by omega
      obtain ⟨hr1, hr2, hr3, hr4⟩ := brTo_ok HBS.out xs.length (Nat.le_refl _)
      go_wp2
      go_returns
      exact ⟨by rw [HV.out] <;> rfl, Below_next HB.out HBR.out⟩
set_option maxRecDepth 20000 in
set_option maxHeartbeats 4000000 in
theorem sBestReplace_any (A L : Option Addr) (c d : Nat) (x : Cd) (P : Option Addr) (c1 : Nat) (xs : List Im) (w : World) (hr : CdAt w A L x) (hl : CdFits x) (hp : Ims w w.heap.size P xs) (hq : ImsFits xs) (hcp : xs.length ≤ c1 ∧ c1 ≤ 9223372036854775807) :
    Calls Tryz.prog 25 #[x.val A c L d, .slice P xs.length c1] w fun e w' => e = .returned (brV x xs) ∧ Below w.heap.size w w' := by
  obtain ⟨W, hW, hB⟩ := boxed 32 w A c L d x
  have HB := Lib.hid hB.below
  have HX := Lib.hid hB.at_
  have HR := Lib.hid (hr.below hB.below)
  have HP := Lib.hid (hp.next hB.below)
  have HCP := Lib.hid hcp
  have HL := Lib.hid hl
  have HQ := Lib.hid hq
  clear hr hl hp hq hB hcp
  unfold boxCd at hW
  unfold Cd.val
  go_enter Tryz.func25, Tryz.ntmps25
  go_wp2_with fail
  rw [← hW]
  clear hW
  refine (pgGood_any A L c d x P c1 xs W HR.out HL.out HP.out HQ.out).mono ?_
  rintro e w1 ⟨rfl, hb1⟩
  have HB1 := Lib.hid hb1
  clear hb1
  by_cases hok : PgOk x xs
  rotate_left
  · have HV := Lib.hid (show brV x xs = _ from brV_no hok)
    rw [pB_no hok]
    clear hok
    go_wp2
    go_returns
    exact ⟨by rw [HV.out] <;> rfl, Below_next HB.out HB1.out⟩
  rw [pB_yes hok]
  have HK := Lib.hid hok
  have HBS := Lib.hid (pg_known hok)
  have HV := Lib.hid (show brV x xs = _ from brV_yes hok)
  have h14 := hok.ask.ls.len
  have h24 := hok.ask.cd.els.hi
  have h01 := hok.ask.cd.els.lo
  clear hok
  obtain ⟨b, o, rfl, hbl, hce⟩ := HR.out.els.el (by omega)
  have HEL := Lib.hid (fun (w' : World) (h : Below W.heap.size W w') (i : Nat) (hi : i < x.els.length) => (hce i hi).below h hbl)
  clear hce
  go_wp2
  go_loopw [8, 9, 10, 22] (fun v1 v2 v3 v wr => ∃ k : Nat, k ≤ xs.length ∧ v = .int .i64 k ∧ v1 = .int .i64 (brTo x xs k).k ∧ v2 = .int .i64 (brTo x xs k).i ∧ v3 = .int .i64 (brTo x xs k).m ∧ Hid (Below W.heap.size W wr)) (fun _ _ _ v _ => xs.length - (intOf v).toNat)
  case atStart => exact ⟨0, Nat.zero_le _, rfl, rfl, rfl, rfl, HB1⟩
  case round =>
    obtain ⟨k, hk, rfl, rfl, rfl, rfl, HBR⟩ := hrel
    obtain ⟨wo, rfl⟩ : ∃ wo : World, wo = wr := ⟨_, rfl⟩
    by_cases hlt : k < xs.length
    · obtain ⟨x0, x1, x2, x3, x4, x5⟩ := (HX.out.next HBR.out).box
      have HBO := Lib.hid (brTo_ok HBS.out k hk)
      go_wp2
      clear x0 x1 x2 x3 x4 x5
      go_loopw [8, 9, 10, 28] (fun v1 v2 v3 v wr => ∃ i : Nat, i ≤ x.els.length ∧ v = .int .i64 i ∧ v1 = .int .i64 (brRow x xs k (brTo x xs k) i).k ∧ v2 = .int .i64 (brRow x xs k (brTo x xs k) i).i ∧ v3 = .int .i64 (brRow x xs k (brTo x xs k) i).m ∧ Hid (Below W.heap.size W wr)) (fun _ _ _ v _ => x.els.length - (intOf v).toNat)
      case atStart => exact ⟨0, Nat.zero_le _, rfl, rfl, rfl, rfl, HBR⟩
      case round =>
        clear HBR
        obtain ⟨i, hi, rfl, rfl, rfl, rfl, HBR⟩ := hrel
        by_cases hli : i < x.els.length
        · obtain ⟨c0, c1', c2, c3⟩ := HEL.out wr HBR.out i hli
          have HBO2 := brRow_ok HBS.out HBO.out hlt i hi
          obtain ⟨hr1, hr2, hr3, hr4⟩ := HBO2
          obtain ⟨S, hS⟩ : ∃ S, S = brRow x xs k (brTo x xs k) i := ⟨_, rfl⟩
          have HST := Lib.hid (show brRow x xs k (brTo x xs k) (i + 1) = brStep x xs k i S by rw [hS]; rfl)
          rw [← hS] at hr1 hr2 hr3 hr4 ⊢
          have hb4 := below_alloc wr (.cells #[.string (it x.els i).name, .int .i64 (it x.els i).fam, .int .i64 (it x.els i).lev, .int .i64 (it x.els i).base] 58)
          have HB4 := Lib.hid (HBR.out.trans (hb4.mono HBR.out.size))
          obtain ⟨x0, x1, x2, x3, x4, x5⟩ := (HX.out.next HB4.out).box
          have hnm : (it x.els i).name.size ≤ 1048576 := El.fit (HK.out.ask.cd.els.el i hli)
          have hcall := sReplaceGain_any _ L c d x P c1 xs k (it x.els i).name _ (HR.out.below HB4.out) HL.out (HP.out.next HB4.out) HQ.out HCP.out hnm
          rw [rgV_go HK.out hlt] at hcall
          have HC := Lib.hid hcall
          clear hcall
          clear hS hb4
          by_cases hnew : PgOk x (rplS xs k (it x.els i).name)
          · have HGV := Lib.hid (show goV x xs k (it x.els i).name = _ from ansV_yes hnew)
            have hrg := rgI_le HBS.out hnew
            by_cases hgt : S.m < rgI x xs k (it x.els i).name
            · have HSS := Lib.hid (brStep_yes hnew hgt)
              clear hnew
              go_wp2_with (first | (go_at_call 23; refine HC.out.mono ?_; rintro e w5 ⟨he, hb⟩; rw [HGV.out] at he; subst he; have HB5 := Lib.hid (HB4.out.trans (hb.mono HB4.out.size)); clear hb))
              go_roundw
              case rel => exact ⟨i + 1, by omega, by go_num, by rw [HST.out, HSS.out], by rw [HST.out, HSS.out], by rw [HST.out, HSS.out], HB5⟩
              case measure => simp [intOf]; omega
            · have HSS := Lib.hid (brStep_no (x := x) (xs := xs) (k := k) (i := i) (s := S) (fun q => hgt q.2))
              have hgt' : rgI x xs k (it x.els i).name ≤ S.m := by omega
              clear hnew hgt
              go_wp2_with (first | (go_at_call 23; refine HC.out.mono ?_; rintro e w5 ⟨he, hb⟩; rw [HGV.out] at he; subst he; have HB5 := Lib.hid (HB4.out.trans (hb.mono HB4.out.size)); clear hb))
              go_roundw
              case rel => exact ⟨i + 1, by omega, by go_num, by rw [HST.out, HSS.out], by rw [HST.out, HSS.out], by rw [HST.out, HSS.out], HB5⟩
              case measure => simp [intOf]; omega
          · have HGV := Lib.hid (show goV x xs k (it x.els i).name = _ from ansV_no hnew)
            have HSS := Lib.hid (brStep_no (x := x) (xs := xs) (k := k) (i := i) (s := S) (fun q => hnew q.1))
            clear hnew
            go_wp2_with (first | (go_at_call 23; refine HC.out.mono ?_; rintro e w5 ⟨he, hb⟩; rw [HGV.out] at he; subst he; have HB5 := Lib.hid (HB4.out.trans (hb.mono HB4.out.size)); clear hb))
            go_roundw
            case rel => exact ⟨i + 1, by omega, by go_num, by rw [HST.out, HSS.out], by rw [HST.out, HSS.out], by rw [HST.out, HSS.out], HB5⟩
            case measure => simp [intOf]; omega
        · obtain rfl : i = x.els.length := by omega
          go_wp2
          go_roundw
          case rel => exact ⟨k + 1, by omega, by go_num, rfl, rfl, rfl, HBR⟩
          case measure => simp [intOf]; omega
    · obtain rfl : k = xs.length := by omega
      obtain ⟨hr1, hr2, hr3, hr4⟩ := brTo_ok HBS.out xs.length (Nat.le_refl _)
      go_wp2
      go_returns
      exact ⟨by rw [HV.out] <;> rfl, Below_next HB.out HBR.out⟩
end Go.Proofs.YtjmdaecjgiafoaaGreatDoor
