/- OpenReviews of the model: the open flags of a run, place for place. -/
import Derived.Test.YthbkfekbpjkhnaaHiNp
namespace Go.Proofs.Ythbkfekbpjkhnaa
open Go.ChangeShapes Go.WideShapes Go.ChangeAt Go.RowKit Go.Lib Go.Proofs
set_option linter.unusedVariables false

/-- Is a review of a name open behind all changes? -/
def orD (hs : List Cg) (i j : Nat) : Bool := opS hs (i : Int) (j : Int) hs.length
noncomputable def orF (xs : List Im) (hs : List Cg) : List (List Int) := @ite _ (HiOk xs hs) (Classical.propDecidable _) (plI (nmN xs) (orD hs) xs.length) []
theorem orF_yes {xs : List Im} {hs : List Cg} (h : HiOk xs hs) : orF xs hs = plI (nmN xs) (orD hs) xs.length := @if_pos _ (Classical.propDecidable _) h _ _ _
theorem orF_no {xs : List Im} {hs : List Cg} (h : ¬ HiOk xs hs) : orF xs hs = [] := @if_neg _ (Classical.propDecidable _) h _ _ _
theorem orF_same {xs ys : List Im} (h : SameS xs ys) (hs : List Cg) : orF ys hs = orF xs hs := by
  by_cases k : HiOk xs hs
  · rw [orF_yes k, orF_yes (k.same h), h.len]
    exact plI_congr _ (fun i hi => nmN_same h hi) (fun _ _ _ _ => rfl)
  · rw [orF_no k, orF_no (fun q => k ((hiOk_same h hs).1 q))]
theorem orF_few (xs : List Im) (hs : List Cg) : Few (orF xs hs) := by
  by_cases k : HiOk xs hs
  · rw [orF_yes k]
    refine ⟨?_, fun i hi => Nat.le_of_eq (plI_two _ _ (it_in hi))⟩
    have h1 := plI_len (n := nmN xs) (D := orD hs) xs.length (fun i hi => (k.1.each i hi).hi)
    have h2 := k.1.len
    omega
  · rw [orF_no k]
    exact ⟨by simp, fun i hi => absurd hi (by simp)⟩
/-- The rows of flags behind a run: where they lie and what they say. -/
structure FlAt (w : World) (bx : Nat) (xs : List Im) (hs : List Cg) (V : Option Addr) (cv : Nat) (os : List (Rw Bool)) (T : Nat → Nat) : Prop where
  bl : bx < w.heap.size
  c1 : w.cell? ⟨bx, 1, none⟩ = some (.slice V xs.length cv)
  len : os.length = xs.length
  row : ∀ i, i < xs.length → ∃ g, V = some ⟨g, 0, none⟩ ∧ g < w.heap.size ∧ w.cell? ⟨g, i, none⟩ = some (.slice (some ⟨T i, 0, none⟩) (nmN xs i) (it os i).c)
  fl : ∀ i j, i < xs.length → j < nmN xs i → T i < w.heap.size ∧ w.cell? ⟨T i, j, none⟩ = some (.bool (orD hs i j))
theorem HiSt.flAt {B0 : Nat} {w : World} {bx : Nat} {R : Option Addr} {d g : Nat} {G : Nat → Nat} {ys : List Im} {v : Value} {T : Nat → Nat} {os : List (Rw Bool)} {xs : List Im} {hs : List Cg} (h : HiSt B0 w bx R d g G ys v T os) (hI : StIs xs hs hs.length ys os) : ∃ V cv, FlAt w bx xs hs V cv os T := by
  obtain ⟨V, cv, hv, hV⟩ := h.op.form
  subst hv
  have hl := hI.ol
  refine ⟨V, cv, h.hi, by rw [← hl]; exact h.c1, hl, fun i hi => ?_, fun i j hi hj => ?_⟩
  · obtain ⟨gv, q1, q2, q3, q4⟩ := hV (by omega)
    have hc := (q4.rw0 i (by omega)).c0
    rw [h.op.adr i (by omega), hI.rl i hi] at hc
    exact ⟨gv, q1, q3, hc⟩
  · have hf := (h.op.each i (by omega)).bool0 j (by have := hI.rl i hi; unfold nmN at hj; omega)
    rw [hI.op i j hi hj] at hf
    exact ⟨h.op.hi i (by omega), hf.1⟩
theorem FlAt.next {w w' : World} {bx : Nat} {xs : List Im} {hs : List Cg} {V : Option Addr} {cv : Nat} {os : List (Rw Bool)} {T : Nat → Nat} (h : FlAt w bx xs hs V cv os T) (hb : Below w.heap.size w w') : FlAt w' bx xs hs V cv os T :=
  ⟨Nat.lt_of_lt_of_le h.bl hb.size, (hb.cell (p := ⟨bx, 1, none⟩) h.bl).trans h.c1, h.len, fun i hi => by
    obtain ⟨g, q1, q2, q3⟩ := h.row i hi
    exact ⟨g, q1, Nat.lt_of_lt_of_le q2 hb.size, (hb.cell (p := ⟨g, i, none⟩) q2).trans q3⟩, fun i j hi hj => ⟨Nat.lt_of_lt_of_le (h.fl i j hi hj).1 hb.size, (hb.cell (p := ⟨T i, j, none⟩) (h.fl i j hi hj).1).trans (h.fl i j hi hj).2⟩⟩
set_option maxHeartbeats 4000000 in
set_option maxRecDepth 100000 in
theorem sOpenReviews_any (P : Option Addr) (c : Nat) (xs : List Im) (A : Option Addr) (ch : Nat) (hs : List Cg) (w : World) (hr : Ims w w.heap.size P xs) (hl : ImsFits xs) (hg : Lst w w.heap.size A hs) (hgl : hs.length ≤ 1048576) (hcap : hs.length ≤ ch ∧ ch ≤ 9223372036854775807) :
    Calls Try.prog 26 #[.slice P xs.length c, .slice A hs.length ch] w fun e w' => (∃ y : Rw (Rw Int), e = .returned (.tuple #[.slice y.A y.xs.length y.c, .bool (pB (HiOk xs hs))]) ∧ PairsAns (orF xs hs) w w' y) ∧ Below w.heap.size w w' := by
  have HA := Lib.hid (hiAsked_any P c xs A ch hs w hr hl hg hgl)
  have HR := Lib.hid hr
  have HG := Lib.hid hg
  clear hr hl hg hcap
  by_cases hok : HiOk xs hs
  rotate_left
  · have HP := Lib.hid (And.intro (pB_no hok) (orF_no hok))
    rw [pB_no hok] at HA
    clear hok
    go_enter Try.func26, Try.ntmps26
    go_wp2_with fail
    refine HA.out.mono ?_
    rintro e w1 ⟨rfl, hb1⟩
    have HB1 := Lib.hid hb1
    clear hb1 HA
    go_wp2
    go_returns
    rw [HP.out.1, HP.out.2]
    exact ⟨⟨⟨none, 0, []⟩, rfl, PairsAns.nil _ _⟩, HB1.out⟩
  rw [pB_yes hok] at HA
  have HP := Lib.hid (And.intro (pB_yes hok) (orF_yes hok))
  have HK := Lib.hid hok
  have h14 := hok.1.len
  have HN3 := Lib.hid (show ∀ k, k < xs.length → nmN xs k ≤ 3 from fun k hk => (hok.1.each k hk).hi)
  obtain ⟨i0, hi, hz0, hz1, hz2⟩ := info_parts Try.infoRwI
  have HZ := Lib.hid (And.intro hi (And.intro hz0 (And.intro hz1 hz2)))
  clear hok hi hz0 hz1 hz2
  go_enter Try.func26, Try.ntmps26
  go_wp2_with fail
  refine HA.out.mono ?_
  rintro e w1 ⟨rfl, hb1⟩
  have HB1 := Lib.hid hb1
  clear hb1 HA
  have HRN := Lib.hid (hiRun_any P c xs A ch hs 100000 w1 (HR.out.next HB1.out) HK.out.1 ((HG.out.below HB1.out (Nat.le_refl _)).up HB1.out.size) hgl HK.out.2.tk)
  go_wp2_with (go_at_call 54; refine HRN.out.mono ?_; rintro e W ⟨⟨bx, h⟩, hb2⟩; obtain ⟨rfl, hall, R, d, g, G, ys, v, T, os, hst, hsi⟩ := h.resolve_left (fun q => q.2 (fun j hj => HK.out.2.ok j (Nat.lt_of_lt_of_le hj (cuT_le _ _ _)))); rw [cuT_all HK.out.2.tk] at hsi; obtain ⟨V, cv, hfl⟩ := hst.flAt hsi; have HFL := Lib.hid hfl; have HB2 := Lib.hid (Below_next HB1.out hb2); have z1 := hfl.c1; clear h hall hst hsi hb2 hfl)
  clear z1
  clear HRN
  go_loopw [8, 28] (fun v p wr => ∃ (i : Nat) (ys : List (Rw Int)) (s : Nat → Nat), i ≤ xs.length ∧ p = .int .i64 i ∧ Hid (NAp W wr v (plI (nmN xs) (orD hs) i) ys s) ∧ Hid (Below W.heap.size W wr)) (fun _ p _ => xs.length - (intOf p).toNat)
  case atStart => exact ⟨0, [], fun _ => 0, Nat.zero_le _, rfl, Lib.hid (NAp.zero W W), Lib.hid (Below.refl _ _)⟩
  case round =>
    obtain ⟨i, zs, s, hk, rfl, HA, HB⟩ := hrel
    by_cases hlt : i < xs.length
    · obtain ⟨gv, rfl, hgv, hrow⟩ := HFL.out.row i hlt
      have c0 := (HB.out.cell (p := ⟨gv, i, none⟩) hgv).trans hrow
      have hn3 := HN3.out i hlt
      have e1 : (0 : Int) ≤ (i : Int) := by omega
      have e2 : (i : Int) < (xs.length : Int) := by omega
      clear hrow
      go_wp2_with fail
      clear c0
      have HA3 := Lib.hid (show NAp W wr _ (plI (nmN xs) (orD hs) i ++ plJ (orD hs) i 0) zs s by rw [show plJ (orD hs) i 0 = [] from rfl, List.append_nil]; exact HA.out)
      go_loopw [8, 35] (fun v p wr => ∃ (j : Nat) (zs : List (Rw Int)) (s : Nat → Nat), j ≤ nmN xs i ∧ p = .int .i64 j ∧ Hid (NAp W wr v (plI (nmN xs) (orD hs) i ++ plJ (orD hs) i j) zs s) ∧ Hid (Below W.heap.size W wr)) (fun _ p _ => nmN xs i - (intOf p).toNat)
      case atStart => exact ⟨0, zs, s, Nat.zero_le _, rfl, HA3, HB⟩
      case round =>
        obtain ⟨j, zs, s, hj, rfl, HJ, HBJ⟩ := hrel
        by_cases hjl : j < nmN xs i
        · obtain ⟨ht, hf⟩ := HFL.out.fl i j hlt hjl
          have c0 := (HBJ.out.cell (p := ⟨T i, j, none⟩) ht).trans hf
          have hbd := plI_len (n := nmN xs) (D := orD hs) i (fun k hk => HN3.out k (by omega))
          have hbd2 := plJ_len (orD hs) i j
          have HLN := Lib.hid HJ.out.len
          have HPL := Lib.hid (show (plI (nmN xs) (orD hs) i ++ plJ (orD hs) i j).length ≤ 60 by rw [List.length_append]; omega)
          clear ht hf
          cases hq : orD hs i j
          · rw [hq] at c0
            have HQ := Lib.hid (plJ_no hq)
            clear hq hbd hbd2
            go_wp2
            go_roundw
            case rel => exact ⟨j + 1, zs, s, by omega, by go_num, by rw [HQ.out]; exact HJ, HBJ⟩
            case measure => simp [intOf]; omega
          · rw [hq] at c0
            have HQ := Lib.hid (plJ_yes hq)
            clear hq hbd hbd2
            go_wp2_with (at_builtin; refine wpList_append_src _ rfl (.tmp 41) (.tmp 45) 41 rfl W.heap.size 53 i0 (.slice none 0 0) 24 Try.underlying41 HZ.out.1 HZ.out.2.1 HZ.out.2.2.1 HZ.out.2.2.2 rfl _ zs.length (zs.flatMap Flat.cells) rfl ((HJ.out.row.alloc _).alloc _) (some ⟨wr.heap.size + 1, 0, none⟩) 1 1 [.slice (some ⟨wr.heap.size, 0, none⟩) 2 2] rfl rfl (fun _ => ⟨_, rfl, one_slice (by simp)⟩) (one_sliceC _ _ _) (by have := HLN.out; have := HPL.out; unfold maxLen; omega) (by have := HLN.out; have := HPL.out; omega) (by have := HBJ.out.size; simp; omega) ?_; intro v1 w6 hown hgrow hat)
            have hps := HJ.out.push HBJ.out hown hgrow (by
              rcases hat with h | h
              · exact .inl h
              · exact .inr (by rw [h]; simp))
            have HPS := Lib.hid hps.1
            have HB6 := Lib.hid hps.2
            clear hown hgrow hat hps
            go_roundw
            case rel => exact ⟨j + 1, _, _, by omega, by go_num, by rw [HQ.out, ← List.append_assoc]; exact HPS, HB6⟩
            case measure => simp [intOf]; omega
        · obtain rfl : j = nmN xs i := by omega
          go_wp2
          go_roundw
          case rel => exact ⟨i + 1, zs, s, by omega, by go_num, HJ, HBJ⟩
          case measure => simp [intOf]; omega
    · obtain rfl : i = xs.length := by omega
      obtain ⟨y, rfl, h1, h2, h3⟩ := HA.out.done
      have H1 := Lib.hid (And.intro h1 (And.intro h2 h3))
      clear h1 h2 h3
      go_wp2
      go_returns
      rw [HP.out.1, HP.out.2]
      exact ⟨⟨y, rfl, H1.out.1, H1.out.2.1, Nst.own_mono H1.out.2.2 (fun i hi => ⟨Nat.le_trans HB2.out.size hi.1, hi.2⟩)⟩, Below_next HB2.out HB.out⟩
end Go.Proofs.Ythbkfekbpjkhnaa
