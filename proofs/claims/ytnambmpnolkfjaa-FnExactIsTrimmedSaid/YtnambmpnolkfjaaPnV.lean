/- A stable sort of a row of fewer than forty numbers. -/
import Derived.Test.YtnambmpnolkfjaaPnU4
namespace Go.Proofs.Ytnambmpnolkfjaa
open Go.ChangeShapes Go.WideShapes Go.ChangeAt Go.RowKit Go.Lib Go.Sort Go.Proofs
set_option linter.unusedVariables false

/-- Two sorted blocks, twenty and the rest. -/
structure Two (key : Nat → Int) (n : Nat) (d d2 : Array Nat) : Prop where
  sz : d2.size = d.size
  pm : PermIn 0 n d d2
  s1 : Srt key 0 20 d2
  s2 : Srt key 20 n d2
  t : Tag 0 20 n d2
theorem two_of {key : Nat → Int} {d : Array Nat} (hT : ∀ i j, i < j → j < d.size → d[i]! < d[j]!) (h20 : 20 ≤ d.size) : Two key d.size d (insertionSort (ltOf (cfK key)) (insertionSort (ltOf (cfK key)) d 0 20) 20 d.size) ∧ (insertionSort (ltOf (cfK key)) d 0 20).size = d.size := by
  have h1 := insertion_srt (ltOf_cfK key) 0 20 d (fun p q _ h3 h4 => hT p q h3 (by omega)) h20
  generalize insertionSort (ltOf (cfK key)) d 0 20 = d1 at h1 ⊢
  have z1 : d1.size = d.size := h1.2.1
  have g1 : ∀ i, 20 ≤ i → d1[i]! = d[i]! := fun i hi => permIn_at h1.2 (.inr hi)
  have h2 := insertion_srt (ltOf_cfK key) 20 d.size d1 (fun p q h5 h3 h4 => by rw [g1 p h5, g1 q (by omega)]; exact hT p q h3 h4) (by rw [z1]; exact Nat.le_refl _)
  generalize insertionSort (ltOf (cfK key)) d1 20 d.size = d2 at h2 ⊢
  have g2 : ∀ i, i < 20 → d2[i]! = d1[i]! := fun i hi => permIn_at h2.2 (.inl hi)
  refine ⟨⟨h2.2.1.trans z1, permIn_trans _ _ _ _ _ (permIn_mono _ _ 0 20 0 d.size (Nat.le_refl _) h20 (Nat.le_refl _) h1.2) (permIn_mono _ _ 20 d.size 0 d.size (by omega) (Nat.le_refl _) (by rw [z1]; exact Nat.le_refl _) h2.2), srt_congr h1.1 (fun i _ hi => g2 i hi), h2.1, fun i j _ hi hj hjn => ?_⟩, z1⟩
  rw [g2 i hi]
  refine permIn_all d1 d2 20 d.size (fun v => d1[i]! < v) (by rw [z1]; exact Nat.le_refl _) h2.2 (fun q hq hqn => ?_) j hj hjn
  rw [g1 q hq]
  exact permIn_all d d1 0 20 (fun v => v < d[q]!) h20 h1.2 (fun p _ hp => hT p q (by omega) hqn) i (Nat.zero_le _) hi

set_option maxHeartbeats 8000000 in
set_option maxRecDepth 100000 in
theorem stable_any (key : Nat → Int) (l : List Int) (g : Nat) (cb : Array Value) (blk off cap : Nat) (d0 d : Array Nat) (w0 w : World) (eg : ∀ args w, (callFunc g args).run Try.prog w = .ok (.enter g args) w) (hcmp : CmpLays1 Try.prog g cb (encI l) (cfK key) blk off d0.size w0) (R : Row1 (encI l) w0 blk off d0) (hs : d0.size = d.size) (S : SW (encI l) w0 blk off d w) (hn : d.size < 40) (hT : ∀ i j, i < j → j < d.size → d[i]! < d[j]!) :
    Calls Try.prog 113 #[.slice (some ⟨blk, off, none⟩) d.size cap, .int .i64 d.size, .func (.func g) #[] cb] w fun e w' => e = .returned (.tuple #[]) ∧ SymOut key l blk off w0 0 d.size d w' := by
  have S0 := Lib.hid S
  have RR := Lib.hid R
  have HS := Lib.hid hs
  have HCMP := Lib.hid hcmp
  have HTT := Lib.hid hT
  have HK := Lib.hid (ltOf_cfK key)
  have HEG := Lib.hid eg
  have HIS := Lib.hid (fun (a b : Nat) (dk : Array Nat) (wk : World) (hk : dk.size = d.size) (Sk : SW (encI l) w0 blk off dk wk) (hab : a ≤ b) (hb : b ≤ dk.size) => Try.insertionSortCmpFunc_s (encI l) (cfK key) g cb blk off cap a b d0 dk w0 wk eg hcmp R (hs.trans hk.symm) Sk hab hb (by omega))
  have HSM := Lib.hid (fun (d1 : Array Nat) (w1 : World) (h20 : 20 < d.size) (T : Two key d.size d d1) (S1 : SW (encI l) w0 blk off d1 w1) => symMerge_any key l g cb blk off cap d0 w0 d.size 0 20 d.size d1 w1 (Nat.sub_le _ _) ⟨eg, hcmp, R, by omega, hs.trans T.sz.symm, S1, by omega, h20, by rw [T.sz]; exact Nat.le_refl _, T.s1, T.s2, T.t⟩)
  obtain ⟨N, hN⟩ : ∃ N, N = d.size := ⟨_, rfl⟩
  rw [← hN] at hn ⊢
  have HN := Lib.hid hN
  clear S R hs hcmp hT hN eg
  go_enter Try.func113, Try.ntmps113
  go_wp2
  go_loopw [7, 8] (fun v1 v2 wr => (v1 = .int .i64 0 ∧ v2 = .int .i64 20 ∧ Hid (SW (encI l) w0 blk off d wr)) ∨ (20 ≤ N ∧ v1 = .int .i64 20 ∧ v2 = .int .i64 40 ∧ Hid (SW (encI l) w0 blk off (insertionSort (ltOf (cfK key)) d 0 20) wr))) (fun _ v2 _ => 64 - (intOf v2).toNat)
  case atStart => exact .inl ⟨rfl, rfl, S0⟩
  case round =>
    clear S0
    rcases hrel with ⟨rfl, rfl, S1⟩ | ⟨h20, rfl, rfl, S1⟩
    · rcases Nat.lt_or_ge N 20 with hlt | hge
      · have hlt' : (N : Int) < 20 := by omega
        have HC := Lib.hid (show Calls Try.prog 117 #[.slice (some ⟨blk, off, none⟩) N cap, .int .i64 0, .int .i64 N, .func (.func g) #[] cb] wr _ from by
          have h := HIS.out 0 N d wr rfl S1.out (Nat.zero_le _) (by rw [HN.out]; exact Nat.le_refl _)
          rw [← HN.out] at h
          exact h)
        go_upto_region 7 with (first | (go_at_call 117; refine HC.out.mono ?_; rintro e9 w9 ⟨rfl, hsw⟩; have S2 := Lib.hid hsw; clear hsw))
        have HI := Lib.hid (insertion_srt HK.out 0 N d (fun p q _ h3 h4 => HTT.out p q h3 (by rw [← HN.out]; exact h4)) (by rw [HN.out]; exact Nat.le_refl _))
        go_wp2
        go_loopw [6] (fun v6 wr => v6 = .int .i64 20 ∧ Hid (SW (encI l) w0 blk off (insertionSort (ltOf (cfK key)) d 0 N) wr)) (fun _ _ => 0)
        case atStart => exact ⟨rfl, S2⟩
        case round =>
          clear S2
          obtain ⟨rfl, S2⟩ := hrel
          go_wp2
          go_end0
          exact ⟨rfl, _, S2.out, HI.out.2.1, HI.out.2, HI.out.1⟩
      · have hge' : (20 : Int) ≤ (N : Int) := by omega
        have HC := Lib.hid (show Calls Try.prog 117 #[.slice (some ⟨blk, off, none⟩) N cap, .int .i64 0, .int .i64 20, .func (.func g) #[] cb] wr _ from by
          have h := HIS.out 0 20 d wr rfl S1.out (Nat.zero_le _) (by rw [← HN.out]; exact hge)
          rw [← HN.out] at h
          exact h)
        go_wp2_with (first | (go_at_call 117; refine HC.out.mono ?_; rintro e9 w9 ⟨rfl, hsw⟩; have S2 := Lib.hid hsw; clear hsw))
        go_roundw
        case rel => exact .inr ⟨hge, rfl, rfl, S2⟩
        case measure => simp [intOf]
    · have hlt' : (N : Int) < 40 := by omega
      have HTW := Lib.hid (two_of (key := key) HTT.out (by rw [← HN.out]; exact h20))
      have HC := Lib.hid (show Calls Try.prog 117 #[.slice (some ⟨blk, off, none⟩) N cap, .int .i64 20, .int .i64 N, .func (.func g) #[] cb] wr fun e w' => e = .returned (.tuple #[]) ∧ SW (encI l) w0 blk off (insertionSort (ltOf (cfK key)) (insertionSort (ltOf (cfK key)) d 0 20) 20 N) w' from by
        have h := HIS.out 20 N (insertionSort (ltOf (cfK key)) d 0 20) wr HTW.out.2 S1.out h20 (by rw [HTW.out.2, HN.out]; exact Nat.le_refl _)
        rw [HTW.out.2, ← HN.out] at h
        exact h)
      go_upto_region 7 with (first | (go_at_call 117; refine HC.out.mono ?_; rintro e9 w9 ⟨rfl, hsw⟩; have S2 := Lib.hid hsw; clear hsw))
      have HT2 := Lib.hid (show Two key N d (insertionSort (ltOf (cfK key)) (insertionSort (ltOf (cfK key)) d 0 20) 20 N) from by
        have h := HTW.out.1
        rw [← HN.out] at h
        exact h)
      clear HC HTW S1
      generalize insertionSort (ltOf (cfK key)) (insertionSort (ltOf (cfK key)) d 0 20) 20 N = d2 at HT2 S2
      go_wp2
      go_loopw [6] (fun v6 wr => (v6 = .int .i64 20 ∧ Hid (SW (encI l) w0 blk off d2 wr)) ∨ (20 < N ∧ v6 = .int .i64 40 ∧ Hid (SymOut key l blk off w0 0 N d2 wr))) (fun v6 _ => 64 - (intOf v6).toNat)
      case atStart => exact .inl ⟨rfl, S2⟩
      case round =>
        clear S2
        rcases hrel with ⟨rfl, S2⟩ | ⟨h21, rfl, S2⟩
        · rcases Nat.lt_or_ge 20 N with h21 | h21
          · have h21' : (20 : Int) < (N : Int) := by omega
            have HC := Lib.hid (show Calls Try.prog 118 #[.slice (some ⟨blk, off, none⟩) N cap, .int .i64 0, .int .i64 20, .int .i64 N, .func (.func g) #[] cb] wr fun e w' => e = .returned (.tuple #[]) ∧ SymOut key l blk off w0 0 N d2 w' from by
              have h := HSM.out d2 wr (by rw [← HN.out]; exact h21) (by rw [← HN.out]; exact HT2.out) S2.out
              rw [HT2.out.sz, ← HN.out] at h
              exact h)
            go_wp2
            go_loopw [7, 8] (fun v7 v8 w' => v7 = .int .i64 0 ∧ v8 = .int .i64 40 ∧ w' = wr) (fun _ _ _ => 0)
            case atStart => exact ⟨rfl, rfl, rfl⟩
            case round =>
              obtain ⟨rfl, rfl, rfl⟩ := hrel
              go_wp2_with (first | (go_at_call 118; refine HC.out.mono ?_; rintro e9 w9 ⟨rfl, hsw⟩; have S3 := Lib.hid hsw; clear hsw))
              go_roundw
              case rel => exact .inr ⟨h21, rfl, S3⟩
              case measure => simp [intOf]
          · have h21' : (N : Int) ≤ 20 := by omega
            go_wp2
            go_end0
            have e20 : N = 20 := Nat.le_antisymm h21 h20
            exact ⟨rfl, d2, S2.out, HT2.out.sz, HT2.out.pm, by rw [e20]; exact HT2.out.s1⟩
        · go_wp2
          go_end0
          obtain ⟨d3, k1, k2, k3, k4⟩ := S2.out
          exact ⟨rfl, d3, k1, k2.trans HT2.out.sz, permIn_trans _ _ _ _ _ HT2.out.pm k3, k4⟩
end Go.Proofs.Ytnambmpnolkfjaa
