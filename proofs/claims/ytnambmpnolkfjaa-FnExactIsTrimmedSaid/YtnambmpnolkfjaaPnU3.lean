/- The symmetric merge: the search for the place of the rotation, the rotation, the two halves. -/
import Derived.Test.YtnambmpnolkfjaaPnU
namespace Go.Proofs.Ytnambmpnolkfjaa
open Go.ChangeShapes Go.WideShapes Go.ChangeAt Go.RowKit Go.Lib Go.Sort Go.Proofs
set_option linter.unusedVariables false

/-- Behind the rotation. -/
structure Got (key : Nat → Int) (l : List Int) (blk off : Nat) (w0 : World) (a s mid e b : Nat) (d d1 : Array Nat) (w : World) : Prop where
  sw : SW (encI l) w0 blk off d1 w
  sz : d1.size = d.size
  pm : PermIn a b d d1
  md : Mid key a s mid e b d1
  q1 : a ≤ s
  q2 : s ≤ mid
  q3 : mid ≤ e
  q4 : e ≤ b
  q5 : b ≤ d.size
/-- Behind the merge of the first half. -/
structure Got2 (key : Nat → Int) (l : List Int) (blk off : Nat) (w0 : World) (a s mid e b : Nat) (d d1 d2 : Array Nat) (w : World) : Prop where
  sw : SW (encI l) w0 blk off d2 w
  sz1 : d1.size = d.size
  sz : d2.size = d.size
  pm : PermIn a b d d1
  md : Mid key a s mid e b d1
  q1 : a ≤ s
  q2 : s ≤ mid
  q3 : mid ≤ e
  q4 : e ≤ b
  q5 : b ≤ d.size
  h2 : Srt key a mid d2
  p2 : PermIn a mid d1 d2
  s1 : Srt key mid e d2
  s2 : Srt key e b d2
  t : Tag mid e b d2
section
variable {key : Nat → Int} {l : List Int} {blk off : Nat} {w0 : World} {a s mid e b : Nat} {d d1 d2 : Array Nat} {w w2 : World}
theorem Got.next (G : Got key l blk off w0 a s mid e b d d1 w) (hsw : SW (encI l) w0 blk off d2 w2) (hsz : d2.size = d1.size) (p2 : PermIn a mid d1 d2) (h2 : Srt key a mid d2) : Got2 key l blk off w0 a s mid e b d d1 d2 w2 := by
  have g : ∀ i, mid ≤ i → d2[i]! = d1[i]! := fun i hi => permIn_at p2 (.inr hi)
  refine ⟨hsw, G.sz, hsz.trans G.sz, G.pm, G.md, G.q1, G.q2, G.q3, G.q4, G.q5, h2, p2, srt_congr G.md.u2 (fun i hi _ => g i hi), srt_congr G.md.v2 (fun i hi _ => g i (Nat.le_trans G.q3 hi)), fun i j k1 k2 k3 k4 => ?_⟩
  rw [g i k1, g j (Nat.le_trans G.q3 k3)]
  exact G.md.t2 i j k1 k2 k3 k4
theorem Got.skip (G : Got key l blk off w0 a s mid e b d d1 w) (hn : ¬ (a < s ∧ s < mid)) : Got2 key l blk off w0 a s mid e b d d1 d1 w := G.next G.sw rfl (permIn_refl _ _ _) (mid_left G.md hn G.q1 G.q2)
theorem Got.left (G : Got key l blk off w0 a s mid e b d d1 w) (O : SymOut key l blk off w0 a mid d1 w2) : ∃ d2, Got2 key l blk off w0 a s mid e b d d1 d2 w2 := by
  obtain ⟨d2, h1, h2, h3, h4⟩ := O
  exact ⟨d2, G.next h1 h2 h3 h4⟩
theorem Got2.done {d3 : Array Nat} (G : Got2 key l blk off w0 a s mid e b d d1 d2 w) (hsw : SW (encI l) w0 blk off d3 w2) (hsz : d3.size = d2.size) (p3 : PermIn mid b d2 d3) (h3 : Srt key mid b d3) : SymOut key l blk off w0 a b d w2 := by
  have ham : a ≤ mid := Nat.le_trans G.q1 G.q2
  have hmb : mid ≤ b := Nat.le_trans G.q3 G.q4
  have hb1 : b ≤ d1.size := by rw [G.sz1]; exact G.q5
  have hb2 : b ≤ d2.size := by rw [G.sz]; exact G.q5
  exact ⟨d3, hsw, hsz.trans G.sz, permIn_trans _ _ _ _ _ G.pm (permIn_trans _ _ _ _ _ (permIn_mono _ _ a mid a b (Nat.le_refl _) hmb hb1 G.p2) (permIn_mono _ _ mid b a b ham (Nat.le_refl _) hb2 p3)), mid_all G.md hb1 ham hmb G.h2 G.p2 h3 p3⟩
theorem Got2.skip (G : Got2 key l blk off w0 a s mid e b d d1 d2 w) (hn : ¬ (mid < e ∧ e < b)) : SymOut key l blk off w0 a b d w := by
  refine G.done G.sw rfl (permIn_refl _ _ _) ?_
  rcases Nat.lt_or_ge mid e with q | q
  · have h : e = b := by have := G.q4; omega
    rw [← h]
    exact G.s1
  · have h : mid = e := by have := G.q3; omega
    rw [h]
    exact G.s2
theorem Got2.right (G : Got2 key l blk off w0 a s mid e b d d1 d2 w) (O : SymOut key l blk off w0 mid b d2 w2) : SymOut key l blk off w0 a b d w2 := by
  obtain ⟨d3, h1, h2, h3, h4⟩ := O
  exact G.done h1 h2 h3 h4
end

set_option maxHeartbeats 8000000 in
set_option maxRecDepth 100000 in
theorem symMerge_mid (key : Nat → Int) (l : List Int) (g : Nat) (cb : Array Value) (blk off cap : Nat) (d0 : Array Nat) (w0 : World) (a m b : Nat) (d : Array Nat) (w : World) (A : SymIn key l g cb blk off d0 w0 a m b d w) (hn1 : a + 1 < m) (hn2 : m + 1 < b) (IH0 : ∀ (a1 m1 b1 : Nat) (d1 : Array Nat) (w1 : World), b1 - a1 < b - a → SymIn key l g cb blk off d0 w0 a1 m1 b1 d1 w1 → Calls Try.prog 118 #[.slice (some ⟨blk, off, none⟩) d1.size cap, .int .i64 a1, .int .i64 m1, .int .i64 b1, .func (.func g) #[] cb] w1 fun e w' => e = .returned (.tuple #[]) ∧ SymOut key l blk off w0 a1 b1 d1 w') :
    Calls Try.prog 118 #[.slice (some ⟨blk, off, none⟩) d.size cap, .int .i64 a, .int .i64 m, .int .i64 b, .func (.func g) #[] cb] w fun e w' => e = .returned (.tuple #[]) ∧ SymOut key l blk off w0 a b d w' := by
  have IH := Lib.hid IH0
  have HIN := Lib.hid (show ∀ (a1 m1 b1 : Nat) (d1 : Array Nat) (w1 : World), SW (encI l) w0 blk off d1 w1 → d1.size = d.size → a1 < m1 → m1 < b1 → b1 ≤ d.size → Srt key a1 m1 d1 → Srt key m1 b1 d1 → Tag a1 m1 b1 d1 → SymIn key l g cb blk off d0 w0 a1 m1 b1 d1 w1 from fun a1 m1 b1 d1 w1 h1 h2 h3 h4 h5 h6 h7 h8 => ⟨A.eg, A.cmp, A.R, A.hsz, A.hs.trans h2.symm, h1, h3, h4, by rw [h2]; exact h5, h6, h7, h8⟩)
  clear IH0
  have S0 := Lib.hid A.S
  have RR := Lib.hid A.R
  have HS := Lib.hid A.hs
  have HCMP := Lib.hid A.cmp
  have HS1 := Lib.hid A.s1
  have HS2 := Lib.hid A.s2
  have HT := Lib.hid A.t
  have HK := Lib.hid (ltOf_cfK key)
  have hd : d.size < 1000000 := by have := A.hs; have := A.hsz; omega
  have h1 := A.h1
  have h2 := A.h2
  have h3 := A.h3
  have eg := A.eg
  have mixed : Try.prog.follows .mixedOrders = true := by kernel_rfl
  clear A
  go_enter Try.func118, Try.ntmps118
  have e0 : ((m : Int) - (a : Int) == 1) = false := by simp; omega
  have e1 : ((b : Int) - (m : Int) == 1) = false := by simp; omega
  obtain ⟨mid, hmd⟩ : ∃ mid, mid = (a + b) / 2 := ⟨_, rfl⟩
  have m1 : 2 * mid ≤ a + b := by omega
  have m2 : a + b ≤ 2 * mid + 1 := by omega
  have e2 : ((a : Int) + (b : Int)) / 2 = (mid : Int) := by omega
  clear hmd
  obtain ⟨n, hn⟩ : ∃ n, n = mid + m := ⟨_, rfl⟩
  have n1 : n ≤ mid + m := by omega
  have n2 : mid + m ≤ n := by omega
  have e3 : (mid : Int) + (m : Int) = (n : Int) := by omega
  clear hn
  obtain ⟨pp, hpp⟩ : ∃ pp, pp = n - 1 := ⟨_, rfl⟩
  have p1 : pp + 1 ≤ n := by omega
  have p2 : n ≤ pp + 1 := by omega
  have e5 : (n : Int) - 1 = (pp : Int) := by omega
  clear hpp
  rcases Nat.lt_or_ge mid m with hcs | hcs
  · obtain ⟨lo, hlo1, hlo2⟩ : ∃ lo, lo + b ≤ n ∧ n ≤ lo + b := ⟨n - b, by omega, by omega⟩
    obtain ⟨hi, hhi1, hhi2⟩ : ∃ hi, hi ≤ mid ∧ mid ≤ hi := ⟨mid, by omega, by omega⟩
    have e7 : (n : Int) - (b : Int) = (lo : Int) := by omega
    go_wp2
    go_loopw [20, 21] (fun v1 v2 wr => ∃ i j : Nat, v1 = .int .i64 i ∧ v2 = .int .i64 j ∧ lo ≤ i ∧ i ≤ j ∧ j ≤ hi ∧ Hid (SW (encI l) w0 blk off d wr) ∧ Hid (lo < i → ltOf (cfK key) d[mid + m - 1 - (i - 1)]! d[i - 1]! = false) ∧ Hid (j < hi → ltOf (cfK key) d[mid + m - 1 - j]! d[j]! = true)) (fun v1 v2 _ => (intOf v2).toNat - (intOf v1).toNat)
    case atStart => exact ⟨lo, mid, rfl, rfl, by omega, by omega, by omega, S0, Lib.hid (fun h => absurd h (by omega)), Lib.hid (fun h => absurd h (by omega))⟩
    case round =>
      clear S0
      obtain ⟨i, j, rfl, rfl, hi1, hij, hj, S1, HI, HJ⟩ := hrel
      rcases Nat.lt_or_ge i j with hlt | hge
      · obtain ⟨hh, hhd⟩ : ∃ hh, hh = (i + j) / 2 := ⟨_, rfl⟩
        have hb1 : i ≤ hh := by omega
        have hb2 : hh < j := by omega
        have e8 : ((i : Int) + (j : Int)) / 2 = (hh : Int) := by omega
        clear hhd
        obtain ⟨x, hx⟩ : ∃ x, x = mid + m - 1 - hh := ⟨_, rfl⟩
        have e6 : (pp : Int) - (hh : Int) = (x : Int) := by omega
        have b1 : (0 : Int) ≤ (hh : Int) := by omega
        have b2 : (hh : Int) < (d.size : Int) := by omega
        have b3 : (0 : Int) ≤ (x : Int) := by omega
        have b4 : (x : Int) < (d.size : Int) := by omega
        have r1 : IntKind.i64.wrap (x : Int) = (x : Int) := IntWalk.i64_in _ (by omega)
        have HX0 := Lib.hid hx
        have xl : x < d.size := by omega
        clear hx
        obtain ⟨X, hX⟩ : ∃ X, X = d[x]! := ⟨_, rfl⟩
        obtain ⟨Y, hY⟩ : ∃ Y, Y = d[hh]! := ⟨_, rfl⟩
        have la : ∀ (n : Nat) (os : Array Obj), (grow (wr.drewN n) os).cell? ⟨blk, off + x, none⟩ = some (.int .i64 (it l X)) := fun n os => by rw [hX]; exact S1.out.cl RR.out (by rw [HS.out]) x (by omega) n os
        have lb : ∀ (n : Nat) (os : Array Obj), (grow (wr.drewN n) os).cell? ⟨blk, off + hh, none⟩ = some (.int .i64 (it l Y)) := fun n os => by rw [hY]; exact S1.out.cl RR.out (by rw [HS.out]) hh (by omega) n os
        have hc := S1.out.cmp HCMP.out (by rw [HS.out]) X Y
        have HX := Lib.hid hX
        have HY := Lib.hid hY
        clear hX hY
        by_cases hl : cfK key X Y < 0
        · have hd1 : decide (cfK key X Y < 0) = true := decide_eq_true hl
          have HL := Lib.hid (show ltOf (cfK key) d[mid + m - 1 - hh]! d[hh]! = true by rw [← HX0.out, ← HX.out, ← HY.out]; exact hd1)
          go_wp2_with fail
          go_quiet_grown (first | (go_at_fn g; refine Calls.grown_of (hc _ _)))
          have S2 := Lib.hid (S1.out.grown nq osq)
          clear la lb hc
          generalize grow (wr.drewN nq) osq = w2 at S2 ⊢
          clear nq osq
          go_wp2
          go_roundw
          case rel => exact ⟨i, hh, rfl, by go_num, hi1, by omega, by omega, S2, HI, Lib.hid (fun _ => HL.out)⟩
          case measure => simp [intOf]; omega
        · have hd1 : decide (cfK key X Y < 0) = false := decide_eq_false hl
          have HL := Lib.hid (show ltOf (cfK key) d[mid + m - 1 - hh]! d[hh]! = false by rw [← HX0.out, ← HX.out, ← HY.out]; exact hd1)
          go_wp2_with fail
          go_quiet_grown (first | (go_at_fn g; refine Calls.grown_of (hc _ _)))
          have S2 := Lib.hid (S1.out.grown nq osq)
          clear la lb hc
          generalize grow (wr.drewN nq) osq = w2 at S2 ⊢
          clear nq osq
          go_wp2
          go_roundw
          case rel => exact ⟨hh + 1, j, by go_num, rfl, by omega, by omega, hj, S2, Lib.hid (fun _ => HL.out), HJ⟩
          case measure => simp [intOf]; omega
      · obtain ⟨s, hs1, hs2⟩ : ∃ s : Nat, s = i ∧ s = j := ⟨i, rfl, by omega⟩
        subst hs1
        subst hs2
        obtain ⟨e, he1⟩ : ∃ e, e = mid + m - s := ⟨_, rfl⟩
        have e4 : (n : Int) - (s : Int) = (e : Int) := by omega
        have c1 : lo ≤ s := hi1
        have c2 : s ≤ hi := hj
        have HMID := Lib.hid (show ∀ d1 : Array Nat, (∀ t, d1[t]! = rv d s m (mid + m - s) t) → Mid key a s mid e b d1 from fun d1 hd1 => by
          rw [he1]
          exact mid_of (lo := lo) (hi := hi) HK.out HS1.out HS2.out HT.out h1 h2 h3 (by omega) (by omega) c1 c2 HI.out HJ.out hd1)
        have k1 : e + s ≤ mid + m := by omega
        have k2 : mid + m ≤ e + s := by omega
        have HE := Lib.hid he1
        clear he1 HI HJ hge hij
        have g1 : s < m := by omega
        rcases Nat.lt_or_ge m e with g2 | g2
        · have hcall := rotate_any l g cb blk off cap s m e d0 d w0 wr RR.out HS.out S1.out g1 g2 (by omega) hd
          have HC := Lib.hid hcall
          clear hcall
          go_upto_region 41 with (first | (go_at_call 119; refine HC.out.mono ?_; rintro e9 w9 ⟨rfl, d1, r1, r2, r3, r4⟩; have HR1 := Lib.hid r1; have HR2 := Lib.hid r2; have HR3 := Lib.hid r3; have HR4 := Lib.hid r4; clear r1 r2 r3 r4))
          have HG := Lib.hid (show Got key l blk off w0 a s mid e b d d1 w9 from ⟨HR1.out, HR2.out, permIn_mono _ _ s e a b (by omega) (by omega) h3 HR3.out, HMID.out d1 (fun t => by rw [HR4.out t, HE.out]), by omega, by omega, by omega, by omega, h3⟩)
          clear HC HR1 HR2 HR3 HR4 S1
          have g4 : s < mid := by omega
          rcases Nat.lt_or_ge a s with g3 | g3
          · have hcall := IH.out a s mid d1 _ (by omega) (HIN.out a s mid d1 _ HG.out.sw HG.out.sz g3 g4 (by omega) HG.out.md.u1 HG.out.md.v1 HG.out.md.t1)
            rw [HG.out.sz] at hcall
            have HC := Lib.hid hcall
            clear hcall
            go_upto_region 43 with (first | (go_at_call 118; refine HC.out.mono ?_; rintro e9 w9 ⟨rfl, ho⟩; have HO2 := Lib.hid ho; clear ho))
            obtain ⟨d2, hg2⟩ := HG.out.left HO2.out
            have HG2 := Lib.hid hg2
            clear hg2 HC HO2
            have g5 : mid < e := by omega
            rcases Nat.lt_or_ge e b with g6 | g6
            · have hcall := IH.out mid e b d2 _ (by omega) (HIN.out mid e b d2 _ HG2.out.sw HG2.out.sz g5 g6 h3 HG2.out.s1 HG2.out.s2 HG2.out.t)
              rw [HG2.out.sz] at hcall
              have HC := Lib.hid hcall
              clear hcall
              go_wp2_with (first | (go_at_call 118; refine HC.out.mono ?_; rintro e9 w9 ⟨rfl, ho⟩; have HO3 := Lib.hid ho; clear ho))
              go_end0
              exact ⟨rfl, HG2.out.right HO3.out⟩
            · first
                | (exfalso; omega)
                | (go_wp2; go_end0; exact ⟨rfl, HG2.out.skip (by omega)⟩)
          · go_upto_region 43 with fail
            obtain ⟨d2, hg2⟩ : ∃ d2, Got2 key l blk off w0 a s mid e b d d1 d2 _ := ⟨_, HG.out.skip (by omega)⟩
            have HG2 := Lib.hid hg2
            clear hg2
            have g5 : mid < e := by omega
            rcases Nat.lt_or_ge e b with g6 | g6
            · have hcall := IH.out mid e b d2 _ (by omega) (HIN.out mid e b d2 _ HG2.out.sw HG2.out.sz g5 g6 h3 HG2.out.s1 HG2.out.s2 HG2.out.t)
              rw [HG2.out.sz] at hcall
              have HC := Lib.hid hcall
              clear hcall
              go_wp2_with (first | (go_at_call 118; refine HC.out.mono ?_; rintro e9 w9 ⟨rfl, ho⟩; have HO3 := Lib.hid ho; clear ho))
              go_end0
              exact ⟨rfl, HG2.out.right HO3.out⟩
            · first
                | (exfalso; omega)
                | (go_wp2; go_end0; exact ⟨rfl, HG2.out.skip (by omega)⟩)
        · go_upto_region 41 with fail
          obtain ⟨d1, hg⟩ : ∃ d1, Got key l blk off w0 a s mid e b d d1 wr := ⟨d, S1.out, rfl, permIn_refl _ _ _, HMID.out d (fun t => (rv_id d (by have := HE.out; omega) (by omega) (by have := HE.out; omega) t).symm), by omega, by omega, by omega, by omega, h3⟩
          have HG := Lib.hid hg
          clear hg S1
          have g3 : a < s := by omega
          have g4 : mid ≤ s := by omega
          go_upto_region 43 with fail
          obtain ⟨d2, hg2⟩ : ∃ d2, Got2 key l blk off w0 a s mid e b d d1 d2 _ := ⟨_, HG.out.skip (by omega)⟩
          have HG2 := Lib.hid hg2
          clear hg2
          have g5 : mid < e := by omega
          rcases Nat.lt_or_ge e b with g6 | g6
          · have hcall := IH.out mid e b d2 _ (by omega) (HIN.out mid e b d2 _ HG2.out.sw HG2.out.sz g5 g6 h3 HG2.out.s1 HG2.out.s2 HG2.out.t)
            rw [HG2.out.sz] at hcall
            have HC := Lib.hid hcall
            clear hcall
            go_wp2_with (first | (go_at_call 118; refine HC.out.mono ?_; rintro e9 w9 ⟨rfl, ho⟩; have HO3 := Lib.hid ho; clear ho))
            go_end0
            exact ⟨rfl, HG2.out.right HO3.out⟩
          · first
              | (exfalso; omega)
              | (go_wp2; go_end0; exact ⟨rfl, HG2.out.skip (by omega)⟩)
  · obtain ⟨lo, hlo1, hlo2⟩ : ∃ lo, lo ≤ a ∧ a ≤ lo := ⟨a, by omega, by omega⟩
    obtain ⟨hi, hhi1, hhi2⟩ : ∃ hi, hi ≤ m ∧ m ≤ hi := ⟨m, by omega, by omega⟩
    have e9 : decide (mid < m) = false := decide_eq_false (by omega)
    go_wp2
    go_loopw [20, 21] (fun v1 v2 wr => ∃ i j : Nat, v1 = .int .i64 i ∧ v2 = .int .i64 j ∧ lo ≤ i ∧ i ≤ j ∧ j ≤ hi ∧ Hid (SW (encI l) w0 blk off d wr) ∧ Hid (lo < i → ltOf (cfK key) d[mid + m - 1 - (i - 1)]! d[i - 1]! = false) ∧ Hid (j < hi → ltOf (cfK key) d[mid + m - 1 - j]! d[j]! = true)) (fun v1 v2 _ => (intOf v2).toNat - (intOf v1).toNat)
    case atStart => exact ⟨a, m, rfl, rfl, by omega, by omega, by omega, S0, Lib.hid (fun h => absurd h (by omega)), Lib.hid (fun h => absurd h (by omega))⟩
    case round =>
      clear S0
      obtain ⟨i, j, rfl, rfl, hi1, hij, hj, S1, HI, HJ⟩ := hrel
      rcases Nat.lt_or_ge i j with hlt | hge
      · obtain ⟨hh, hhd⟩ : ∃ hh, hh = (i + j) / 2 := ⟨_, rfl⟩
        have hb1 : i ≤ hh := by omega
        have hb2 : hh < j := by omega
        have e8 : ((i : Int) + (j : Int)) / 2 = (hh : Int) := by omega
        clear hhd
        obtain ⟨x, hx⟩ : ∃ x, x = mid + m - 1 - hh := ⟨_, rfl⟩
        have e6 : (pp : Int) - (hh : Int) = (x : Int) := by omega
        have b1 : (0 : Int) ≤ (hh : Int) := by omega
        have b2 : (hh : Int) < (d.size : Int) := by omega
        have b3 : (0 : Int) ≤ (x : Int) := by omega
        have b4 : (x : Int) < (d.size : Int) := by omega
        have r1 : IntKind.i64.wrap (x : Int) = (x : Int) := IntWalk.i64_in _ (by omega)
        have HX0 := Lib.hid hx
        have xl : x < d.size := by omega
        clear hx
        obtain ⟨X, hX⟩ : ∃ X, X = d[x]! := ⟨_, rfl⟩
        obtain ⟨Y, hY⟩ : ∃ Y, Y = d[hh]! := ⟨_, rfl⟩
        have la : ∀ (n : Nat) (os : Array Obj), (grow (wr.drewN n) os).cell? ⟨blk, off + x, none⟩ = some (.int .i64 (it l X)) := fun n os => by rw [hX]; exact S1.out.cl RR.out (by rw [HS.out]) x (by omega) n os
        have lb : ∀ (n : Nat) (os : Array Obj), (grow (wr.drewN n) os).cell? ⟨blk, off + hh, none⟩ = some (.int .i64 (it l Y)) := fun n os => by rw [hY]; exact S1.out.cl RR.out (by rw [HS.out]) hh (by omega) n os
        have hc := S1.out.cmp HCMP.out (by rw [HS.out]) X Y
        have HX := Lib.hid hX
        have HY := Lib.hid hY
        clear hX hY
        by_cases hl : cfK key X Y < 0
        · have hd1 : decide (cfK key X Y < 0) = true := decide_eq_true hl
          have HL := Lib.hid (show ltOf (cfK key) d[mid + m - 1 - hh]! d[hh]! = true by rw [← HX0.out, ← HX.out, ← HY.out]; exact hd1)
          go_wp2_with fail
          go_quiet_grown (first | (go_at_fn g; refine Calls.grown_of (hc _ _)))
          have S2 := Lib.hid (S1.out.grown nq osq)
          clear la lb hc
          generalize grow (wr.drewN nq) osq = w2 at S2 ⊢
          clear nq osq
          go_wp2
          go_roundw
          case rel => exact ⟨i, hh, rfl, by go_num, hi1, by omega, by omega, S2, HI, Lib.hid (fun _ => HL.out)⟩
          case measure => simp [intOf]; omega
        · have hd1 : decide (cfK key X Y < 0) = false := decide_eq_false hl
          have HL := Lib.hid (show ltOf (cfK key) d[mid + m - 1 - hh]! d[hh]! = false by rw [← HX0.out, ← HX.out, ← HY.out]; exact hd1)
          go_wp2_with fail
          go_quiet_grown (first | (go_at_fn g; refine Calls.grown_of (hc _ _)))
          have S2 := Lib.hid (S1.out.grown nq osq)
          clear la lb hc
          generalize grow (wr.drewN nq) osq = w2 at S2 ⊢
          clear nq osq
          go_wp2
          go_roundw
          case rel => exact ⟨hh + 1, j, by go_num, rfl, by omega, by omega, hj, S2, Lib.hid (fun _ => HL.out), HJ⟩
          case measure => simp [intOf]; omega
      · obtain ⟨s, hs1, hs2⟩ : ∃ s : Nat, s = i ∧ s = j := ⟨i, rfl, by omega⟩
        subst hs1
        subst hs2
        obtain ⟨e, he1⟩ : ∃ e, e = mid + m - s := ⟨_, rfl⟩
        have e4 : (n : Int) - (s : Int) = (e : Int) := by omega
        have c1 : lo ≤ s := hi1
        have c2 : s ≤ hi := hj
        have HMID := Lib.hid (show ∀ d1 : Array Nat, (∀ t, d1[t]! = rv d s m (mid + m - s) t) → Mid key a s mid e b d1 from fun d1 hd1 => by
          rw [he1]
          exact mid_of (lo := lo) (hi := hi) HK.out HS1.out HS2.out HT.out h1 h2 h3 (by omega) (by omega) c1 c2 HI.out HJ.out hd1)
        have k1 : e + s ≤ mid + m := by omega
        have k2 : mid + m ≤ e + s := by omega
        have HE := Lib.hid he1
        clear he1 HI HJ hge hij
        rcases Nat.lt_or_ge s m with g1 | g1
        · have g2 : m < e := by omega
          have hcall := rotate_any l g cb blk off cap s m e d0 d w0 wr RR.out HS.out S1.out g1 g2 (by omega) hd
          have HC := Lib.hid hcall
          clear hcall
          go_upto_region 41 with (first | (go_at_call 119; refine HC.out.mono ?_; rintro e9 w9 ⟨rfl, d1, r1, r2, r3, r4⟩; have HR1 := Lib.hid r1; have HR2 := Lib.hid r2; have HR3 := Lib.hid r3; have HR4 := Lib.hid r4; clear r1 r2 r3 r4))
          have HG := Lib.hid (show Got key l blk off w0 a s mid e b d d1 w9 from ⟨HR1.out, HR2.out, permIn_mono _ _ s e a b (by omega) (by omega) h3 HR3.out, HMID.out d1 (fun t => by rw [HR4.out t, HE.out]), by omega, by omega, by omega, by omega, h3⟩)
          clear HC HR1 HR2 HR3 HR4 S1
          have g4 : s < mid := by omega
          rcases Nat.lt_or_ge a s with g3 | g3
          · have hcall := IH.out a s mid d1 _ (by omega) (HIN.out a s mid d1 _ HG.out.sw HG.out.sz g3 g4 (by omega) HG.out.md.u1 HG.out.md.v1 HG.out.md.t1)
            rw [HG.out.sz] at hcall
            have HC := Lib.hid hcall
            clear hcall
            go_upto_region 43 with (first | (go_at_call 118; refine HC.out.mono ?_; rintro e9 w9 ⟨rfl, ho⟩; have HO2 := Lib.hid ho; clear ho))
            obtain ⟨d2, hg2⟩ := HG.out.left HO2.out
            have HG2 := Lib.hid hg2
            clear hg2 HC HO2
            have g5 : mid < e := by omega
            rcases Nat.lt_or_ge e b with g6 | g6
            · have hcall := IH.out mid e b d2 _ (by omega) (HIN.out mid e b d2 _ HG2.out.sw HG2.out.sz g5 g6 h3 HG2.out.s1 HG2.out.s2 HG2.out.t)
              rw [HG2.out.sz] at hcall
              have HC := Lib.hid hcall
              clear hcall
              go_wp2_with (first | (go_at_call 118; refine HC.out.mono ?_; rintro e9 w9 ⟨rfl, ho⟩; have HO3 := Lib.hid ho; clear ho))
              go_end0
              exact ⟨rfl, HG2.out.right HO3.out⟩
            · first
                | (exfalso; omega)
                | (go_wp2; go_end0; exact ⟨rfl, HG2.out.skip (by omega)⟩)
          · go_upto_region 43 with fail
            obtain ⟨d2, hg2⟩ : ∃ d2, Got2 key l blk off w0 a s mid e b d d1 d2 _ := ⟨_, HG.out.skip (by omega)⟩
            have HG2 := Lib.hid hg2
            clear hg2
            have g5 : mid < e := by omega
            rcases Nat.lt_or_ge e b with g6 | g6
            · have hcall := IH.out mid e b d2 _ (by omega) (HIN.out mid e b d2 _ HG2.out.sw HG2.out.sz g5 g6 h3 HG2.out.s1 HG2.out.s2 HG2.out.t)
              rw [HG2.out.sz] at hcall
              have HC := Lib.hid hcall
              clear hcall
              go_wp2_with (first | (go_at_call 118; refine HC.out.mono ?_; rintro e9 w9 ⟨rfl, ho⟩; have HO3 := Lib.hid ho; clear ho))
              go_end0
              exact ⟨rfl, HG2.out.right HO3.out⟩
            · first
                | (exfalso; omega)
                | (go_wp2; go_end0; exact ⟨rfl, HG2.out.skip (by omega)⟩)
        · go_upto_region 41 with fail
          obtain ⟨d1, hg⟩ : ∃ d1, Got key l blk off w0 a s mid e b d d1 wr := ⟨d, S1.out, rfl, permIn_refl _ _ _, HMID.out d (fun t => (rv_id d (by have := HE.out; omega) (by omega) (by have := HE.out; omega) t).symm), by omega, by omega, by omega, by omega, h3⟩
          have HG := Lib.hid hg
          clear hg S1
          have g3 : a < s := by omega
          rcases Nat.lt_or_ge s mid with g4 | g4
          · have hcall := IH.out a s mid d1 _ (by omega) (HIN.out a s mid d1 _ HG.out.sw HG.out.sz g3 g4 (by omega) HG.out.md.u1 HG.out.md.v1 HG.out.md.t1)
            rw [HG.out.sz] at hcall
            have HC := Lib.hid hcall
            clear hcall
            go_upto_region 43 with (first | (go_at_call 118; refine HC.out.mono ?_; rintro e9 w9 ⟨rfl, ho⟩; have HO2 := Lib.hid ho; clear ho))
            obtain ⟨d2, hg2⟩ := HG.out.left HO2.out
            have HG2 := Lib.hid hg2
            clear hg2 HC HO2
            have g5 : e ≤ mid := by omega
            first
              | (exfalso; omega)
              | (go_wp2; go_end0; exact ⟨rfl, HG2.out.skip (by omega)⟩)
          · go_upto_region 43 with fail
            obtain ⟨d2, hg2⟩ : ∃ d2, Got2 key l blk off w0 a s mid e b d d1 d2 _ := ⟨_, HG.out.skip (by omega)⟩
            have HG2 := Lib.hid hg2
            clear hg2
            have g5 : e ≤ mid := by omega
            first
              | (exfalso; omega)
              | (go_wp2; go_end0; exact ⟨rfl, HG2.out.skip (by omega)⟩)
end Go.Proofs.Ytnambmpnolkfjaa
