/- LastChange, both sides. -/
import Derived.Test.YthbkfekbpjkhnaaHiN
import Derived.Deep.RegionHeld3
namespace Go.Proofs.Ythbkfekbpjkhnaa
open Go.ChangeShapes Go.WideShapes Go.ChangeAt Go.RowKit Go.Lib Go.Proofs Go.PlainAid
set_option linter.unusedVariables false

noncomputable def lcN (xs : List Im) (hs : List Cg) (i n : Int) : Nat := @ite _ (HiOk xs hs) (Classical.propDecidable _) (laK hs i n hs.length) 0
noncomputable def lcV (xs : List Im) (hs : List Cg) (i n : Int) : Value := laA (lcN xs hs i n)
theorem lcN_yes {xs : List Im} {hs : List Cg} (i n : Int) (h : HiOk xs hs) : lcN xs hs i n = laK hs i n hs.length := if_pos h
theorem lcN_no {xs : List Im} {hs : List Cg} (i n : Int) (h : ¬ HiOk xs hs) : lcN xs hs i n = 0 := if_neg h
/-- A name that is not there has no changes. -/
theorem laK_there {xs : List Im} {hs : List Cg} {i n : Int} (h : HiOk xs hs) (hn : ¬ NmAt xs i n) : laK hs i n hs.length = 0 := by
  rcases hk : laK hs i n hs.length with _ | p
  · rfl
  · obtain ⟨h1, h2, h3⟩ := laK_at hk
    have := (h.2.ok p h1).nm
    rw [h2, h3] at this
    exact absurd this hn
theorem lcN_none {xs : List Im} {hs : List Cg} {i n : Int} (hn : ¬ NmAt xs i n) : lcN xs hs i n = 0 := by
  by_cases h : HiOk xs hs
  · rw [lcN_yes i n h]
    exact laK_there h hn
  · exact lcN_no i n h
theorem lcV_same {xs ys : List Im} (h : SameS xs ys) (hs : List Cg) (i n : Int) : lcV ys hs i n = lcV xs hs i n := by
  unfold lcV
  by_cases k : HiOk xs hs
  · rw [lcN_yes i n k, lcN_yes i n (k.same h)]
  · rw [lcN_no i n k, lcN_no i n (fun q => k ((hiOk_same h hs).1 q))]
theorem laA_form (k : Nat) : ∃ (p : Int) (q : Bool), laA k = .tuple #[.int .i64 p, .bool q] := by
  cases k with
  | zero => exact ⟨_, _, rfl⟩
  | succ k => exact ⟨_, _, rfl⟩
theorem lcV_form (xs : List Im) (hs : List Cg) (i n : Int) : ∃ (p : Int) (q : Bool), lcV xs hs i n = .tuple #[.int .i64 p, .bool q] := laA_form _
set_option maxHeartbeats 2000000 in
theorem iLastChange_any (P : Option Addr) (c : Nat) (xs : List Im) (A : Option Addr) (ch : Nat) (hs : List Cg) (i n : Int) (w : World) (hr : Ims w w.heap.size P xs) (hl : ImsFits xs) (hg : Lst w w.heap.size A hs) (hgl : hs.length ≤ 1048576) (hcap : hs.length ≤ ch ∧ ch ≤ 9223372036854775807) :
    Calls Try.prog 41 #[.slice P xs.length c, .slice A hs.length ch, .int .i64 i, .int .i64 n] w fun e w' => e = .returned (lcV xs hs i n) ∧ Below w.heap.size w w' := by
  have HA := Lib.hid (recordsOf_any P c xs A ch hs w hr hl hg hgl hcap)
  have HG := Lib.hid hg
  clear hr hl hg
  by_cases hok : HiOk xs hs
  · have HV := Lib.hid (show lcV xs hs i n = laA (laK hs i n hs.length) by unfold lcV; rw [lcN_yes i n hok])
    rw [pB_yes hok] at HA
    obtain ⟨p, q, hpq⟩ := laA_form (laK hs i n hs.length)
    have HPQ := Lib.hid hpq
    clear hok hpq
    go_enter Try.func41, Try.ntmps41
    go_wp2_with fail
    refine HA.out.mono ?_
    rintro e w1 ⟨⟨R, d, rs, rfl, _⟩, hb1⟩
    have HB1 := Lib.hid hb1
    clear hb1 HA
    go_wp2_with (go_at_call 61; refine (lastOfName_any A ch hs i n _ (HG.out.below HB1.out (Nat.le_refl _) |>.up HB1.out.size) hgl).mono ?_; rintro e w2 ⟨he, hb2⟩; rw [HPQ.out] at he; subst he; have HB2 := Lib.hid (Below_next HB1.out hb2); clear hb2)
    go_returns
    exact ⟨by rw [HV.out, HPQ.out]; rfl, HB2.out⟩
  · have HV := Lib.hid (show lcV xs hs i n = laA 0 by unfold lcV; rw [lcN_no i n hok])
    rw [pB_no hok] at HA
    clear hok
    go_enter Try.func41, Try.ntmps41
    go_wp2_with fail
    refine HA.out.mono ?_
    rintro e w1 ⟨⟨R, d, rs, rfl, _⟩, hb1⟩
    have HB1 := Lib.hid hb1
    clear hb1 HA
    go_wp2
    go_returns
    exact ⟨by rw [HV.out]; rfl, HB1.out⟩
set_option maxHeartbeats 2000000 in
theorem sLastChange_any (P : Option Addr) (c : Nat) (xs : List Im) (A : Option Addr) (ch : Nat) (hs : List Cg) (i n : Int) (w : World) (hr : Ims w w.heap.size P xs) (hl : ImsFits xs) (hg : Lst w w.heap.size A hs) (hgl : hs.length ≤ 1048576) (hcap : hs.length ≤ ch ∧ ch ≤ 9223372036854775807) :
    Calls Try.prog 40 #[.slice P xs.length c, .slice A hs.length ch, .int .i64 i, .int .i64 n] w fun e w' => e = .returned (lcV xs hs i n) ∧ Below w.heap.size w w' := by
  have HA := Lib.hid (hiAsked_any P c xs A ch hs w hr hl hg hgl)
  have HR := Lib.hid hr
  have HG := Lib.hid hg
  clear hr hl hg
  by_cases hok : HiOk xs hs
  rotate_left
  · have HV := Lib.hid (show lcV xs hs i n = laA 0 by unfold lcV; rw [lcN_no i n hok])
    rw [pB_no hok] at HA
    clear hok
    go_enter Try.func40, Try.ntmps40
    go_wp2_with fail
    refine HA.out.mono ?_
    rintro e w1 ⟨rfl, hb1⟩
    have HB1 := Lib.hid hb1
    clear hb1 HA
    go_wp2
    go_returns
    exact ⟨by rw [HV.out]; rfl, HB1.out⟩
  rw [pB_yes hok] at HA
  have HN := Lib.hid (fun W (h : Ims W W.heap.size P xs) => hiName_any P c xs xs i n W (fun _ _ => rfl) rfl h hok.1.len (fun k hk => (hok.1.each k hk).hi))
  by_cases hnm : NmAt xs i n
  rotate_left
  · have HV := Lib.hid (show lcV xs hs i n = laA 0 by unfold lcV; rw [lcN_none hnm])
    rw [pB_no hnm] at HN
    clear hok hnm
    go_enter Try.func40, Try.ntmps40
    go_wp2_with fail
    refine HA.out.mono ?_
    rintro e w1 ⟨rfl, hb1⟩
    have HB1 := Lib.hid hb1
    clear hb1 HA
    go_wp2_with (go_at_call 64; refine (HN.out _ (HR.out.next HB1.out)).mono ?_; rintro e w2 ⟨rfl, rfl⟩)
    go_returns
    exact ⟨by rw [HV.out]; rfl, HB1.out⟩
  rw [pB_yes hnm] at HN
  have HV := Lib.hid (show lcV xs hs i n = laA (laK hs i n hs.length) by unfold lcV; rw [lcN_yes i n hok])
  have h60 := hok.2.few
  clear hok hnm
  go_enter Try.func40, Try.ntmps40
  go_wp2_with fail
  refine HA.out.mono ?_
  rintro e w1 ⟨rfl, hb1⟩
  have HB1 := Lib.hid hb1
  clear hb1 HA
  go_wp2_with (go_at_call 64; refine (HN.out _ (HR.out.next HB1.out)).mono ?_; rintro e w2 ⟨rfl, rfl⟩)
  go_loopw [10] (fun q wr => ∃ m : Nat, m ≤ hs.length ∧ q = .int .i64 ((m : Int) - 1) ∧ Hid (laK hs i n hs.length = laK hs i n m) ∧ Hid (Below w.heap.size w wr)) (fun q _ => (intOf q + 1).toNat)
  case atStart => exact ⟨hs.length, Nat.le_refl _, rfl, Lib.hid rfl, HB1⟩
  case round =>
    obtain ⟨m, hm, rfl, HE, HB⟩ := hrel
    rcases m with _ | p
    · have e0 : (((0 : Nat) : Int) - 1) = -1 := by omega
      rw [e0]
      have HE2 := Lib.hid (show lcV xs hs i n = laA 0 by rw [HV.out, HE.out]; rfl)
      go_wp2
      go_returns
      exact ⟨by rw [HE2.out]; rfl, HB.out⟩
    · have e0 : (((p + 1 : Nat) : Int) - 1) = (p : Int) := by omega
      rw [e0]
      obtain ⟨b, o, rfl, hbl, hcc⟩ := (HG.out.below HB.out (Nat.le_refl _)).cg (by omega)
      obtain ⟨c0, c1, c2, c3, c4, c5⟩ := hcc p (by omega)
      have hi1 : (0 : Int) ≤ (p : Int) := by omega
      have hi2 : (p : Int) < (hs.length : Int) := by omega
      clear hcc hbl e0 c0 c1 c4 c5
      by_cases hm1 : (it hs p).item = i
      · by_cases hm2 : (it hs p).name = n
        · have HE2 := Lib.hid (show lcV xs hs i n = laA (p + 1) by rw [HV.out, HE.out, laK_hit hm1 hm2])
          rw [hm1] at c2
          rw [hm2] at c3
          clear hm1 hm2
          go_wp2
          go_returns
          exact ⟨by rw [HE2.out]; rfl, HB.out⟩
        · have HE2 := Lib.hid (show laK hs i n hs.length = laK hs i n p by rw [HE.out, laK_miss (fun q => hm2 q.2)])
          have hd : ((it hs p).name == n) = false := by simpa using hm2
          rw [hm1] at c2
          clear hm1 hm2
          go_wp2
          go_roundw
          case rel => exact ⟨p, by omega, by first | rfl | simp, HE2, HB⟩
          case measure => simp [intOf]
      · have HE2 := Lib.hid (show laK hs i n hs.length = laK hs i n p by rw [HE.out, laK_miss (fun q => hm1 q.1)])
        have hd : ((it hs p).item == i) = false := by simpa using hm1
        clear hm1
        go_wp2
        go_roundw
        case rel => exact ⟨p, by omega, by first | rfl | simp, HE2, HB⟩
        case measure => simp [intOf]
end Go.Proofs.Ythbkfekbpjkhnaa
