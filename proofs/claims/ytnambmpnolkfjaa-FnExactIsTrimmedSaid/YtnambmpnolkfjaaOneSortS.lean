/- The model's sorted list: each number is put in its place; the order that it gives. -/
import Derived.Test.YtnambmpnolkfjaaOneOwn
import Derived.Test.YtnambmpnolkfjaaOneApp
import Derived.Test.YtnambmpnolkfjaaOneSortM
import Derived.Deep.RegionHeld3
import Derived.Deep.AppendLies
import Derived.Lib.SmallJoins
namespace Go.Proofs.Ytnambmpnolkfjaa.One
open Go.ChangeShapes Go.WideShapes Go.ChangeAt Go.RowKit
set_option linter.unusedVariables false

theorem heap_at_new (w : World) (o : Obj) (g : Nat) (h : w.heap.size = g) : (w.alloc o).heap[g]? = some o := h ▸ heap_alloc_new w o
theorem heap_at_old (w : World) (o x : Obj) (g : Nat) (h : g < w.heap.size) (k : w.heap[g]? = some x) : (w.alloc o).heap[g]? = some x := (heap_alloc_old w o h).trans k
theorem one_news {W : World} {p : Addr} {x : Value} (h : W.cell? p = some x) : ∀ j u, [x][j]? = some u → W.cell? (p.add j) = some u := fun j u hj => by
  match j, hj with
  | 0, hj =>
    simp at hj
    subst hj
    simpa [Addr.add] using h

/-- The cells of an own row from place j on. -/
theorem own_cells {w : World} {base g cap j m : Nat} {zs : List Int} (h : w.ownsRow base 3 1 (.slice (some ⟨g, 0, none⟩) zs.length cap) zs.length (zs.map (Value.int .i64))) (hm : j + m ≤ zs.length) (W : World) (hb : Below w.heap.size w W) :
    ∀ i u, (((zs.drop j).take m).map (Value.int .i64))[i]? = some u → W.cell? ((⟨g, j, none⟩ : Addr).add i) = some u := fun i u hu => by
  have hlt := (h.lt g rfl).2
  have hi : i < m := by
    rcases Nat.lt_or_ge i m with h | h
    · exact h
    · rw [List.getElem?_eq_none (by simp; omega)] at hu
      cases hu
  have ha : (⟨g, j, none⟩ : Addr).add i = ⟨g, j + i, none⟩ := by unfold Addr.add; split <;> simp_all
  rw [ha, hb.cell (p := ⟨g, j + i, none⟩) hlt, h.cellAt (j + i) (by omega), ← hu]
  simp [hi]

structure SRel (xs : List Int) (w : World) (v i : Value) (wr : World) (zs : List Int) : Prop where
  le : zs.length ≤ xs.length
  idx : i = .int .i64 zs.length
  own : wr.ownsRow w.heap.size 3 1 v zs.length (zs.map (Value.int .i64))
  below : Below w.heap.size w wr
  ord : Hid (SortedOf (xs.take zs.length) zs)
  nil_ : Hid (zs = [] → v = .slice none 0 0)

theorem ins_rel {xs zs : List Int} {w wo w3 : World} {v3 : Value} {j n : Nat} (HB : Below w.heap.size w wo) (HB3 : Below wo.heap.size wo w3)
    (HOWN3 : w3.ownsRow wo.heap.size 3 1 v3 n ([] ++ (zs.take j).map (Value.int .i64) ++ [.int .i64 (ix xs zs.length)] ++ (zs.drop j).map (Value.int .i64)))
    (hlt : zs.length < xs.length) (hn : n = zs.length + 1) (hs : SortedOf (xs.take zs.length) zs) (hj : j ≤ zs.length) (h1 : ∀ i, j ≤ i → i < zs.length → ix zs i < ix xs zs.length) (h2 : j = 0 ∨ ix xs zs.length ≤ ix zs (j - 1)) :
    ∃ ys, SRel xs w v3 (.int .i64 ((zs.length : Int) + 1)) w3 ys := by
  have hl := insert_len (zs := zs) (j := j) (x := ix xs zs.length) hj
  refine ⟨zs.take j ++ ix xs zs.length :: zs.drop j, by omega, by rw [hl]; go_num, ?_, HB.trans (HB3.mono HB.size), ?_, Lib.hid (fun e => by have := congrArg List.length e; rw [hl] at this; simp at this)⟩
  · rw [insert_map] at HOWN3
    subst hn
    rw [hl]
    exact Joins.ownsRow_le HOWN3 HB.size
  · have := hs.insert hlt hj h1 h2
    rw [hl]
    exact this

set_option maxHeartbeats 4000000 in
set_option maxRecDepth 100000 in
theorem poSorted_any (A : Option Addr) (c : Nat) (xs : List Int) (w : World) (hr : Ints w w.heap.size A xs) (hl : xs.length ≤ 60) :
    Calls Try.prog 89 #[.slice A xs.length c] w fun e w' => ∃ v ys, e = .returned v ∧ SortedOf xs ys ∧ w'.ownsRow w.heap.size 3 1 v ys.length (ys.map (Value.int .i64)) ∧ Below w.heap.size w w' := by
  have HR := Lib.hid hr
  clear hr
  obtain ⟨i0, hi, hz0, hz1, hz2⟩ := info_parts Try.info3
  go_enter Try.func89, Try.ntmps89
  go_wp2
  go_loopw [3, 9] (fun v i wr => ∃ zs, SRel xs w v i wr zs) (fun _ i _ => xs.length - (intOf i).toNat)
  case atStart => exact ⟨[], ⟨Nat.zero_le _, rfl, World.ownsRow_nil w _ _ _, Below.refl _ _, Lib.hid (SortedOf.nil xs), Lib.hid (fun _ => rfl)⟩⟩
  case round =>
    obtain ⟨zs, hk, rfl, ho, hb, HSO, HNIL⟩ := hrel
    obtain ⟨wo, rfl⟩ : ∃ wo : World, wo = wr := ⟨_, rfl⟩
    by_cases hlt : zs.length < xs.length
    · obtain ⟨b, o, rfl, hbl, hc⟩ := HR.out (by omega)
      have hck := (hb.cell (p := ⟨b, o + zs.length, none⟩) hbl).trans (hc zs.length hlt)
      have HO := Lib.hid ho
      have HB := Lib.hid hb
      have hsz := hb.size
      rcases Joins.ownsRow_forms ho with ⟨rfl, h0⟩ | ⟨g, cap, rfl⟩
      · obtain rfl : zs = [] := List.eq_nil_of_length_eq_zero h0
        have hck0 : wo.cell? ⟨b, o, none⟩ = some (.int .i64 (ix xs 0)) := by simpa using hck
        have hlt0 : 0 < xs.length := by simpa using hlt
        clear hc ho hb h0 hck
        go_wp2

        go_loop [6] (fun q => q = .int .i64 0) (fun _ => 0)
        case atStart => rfl
        case round =>
          obtain rfl := hrel
          go_wp2
          have hj : 0 ≤ ([] : List Int).length := Nat.le_refl _
          have hall : Hid (∀ i, 0 ≤ i → i < ([] : List Int).length → ix [] i < ix xs ([] : List Int).length) := Lib.hid (fun i h1 h2 => absurd h2 (by simp))
          have hsrc1 : Hid (∀ W : World, Below wo.heap.size wo W → 0 < 0 → ∃ ad, (none : Option Addr) = some ad ∧ ∀ jj u, ((([] : List Int).take 0).map (Value.int .i64))[jj]? = some u → W.cell? (ad.add jj) = some u) := Lib.hid (fun W _ h => absurd h (by omega))
          have hlen1 : ((([] : List Int).take 0).map (Value.int .i64)).length = 0 := rfl
          have hsrc2 : Hid (∀ W : World, Below wo.heap.size wo W → 0 < 0 → ∃ ad, (none : Option Addr) = some ad ∧ ∀ jj u, ((([] : List Int).drop 0).map (Value.int .i64))[jj]? = some u → W.cell? (ad.add jj) = some u) := Lib.hid (fun W _ h => absurd h (by omega))
          have hlen2 : ((([] : List Int).drop 0).map (Value.int .i64)).length = 0 := rfl
          go_region_held3 (fun _ => True) (trivial) (first
            | (refine step_append_src _ (by rfl) (.tmp 28) (.tmp 31) 22 (by rfl) wo.heap.size 3 i0 (.int .i64 0) 8 Try.underlying22 hi hz0 hz1 hz2 rfl (.slice (some ⟨_, 0, none⟩) 0 0) 0 [] (by rfl) (by exact owns_empty _ _ _ _ (by first | (simp; done) | (simp; omega) | omega) (by first | exact heap_at_new _ _ _ (by simp; done) | exact heap_at_old _ _ _ _ (by first | (simp; done) | (simp; omega) | omega) (heap_at_new _ _ _ (by simp; done)))) _ _ _ ((([] : List Int).take 0).map (Value.int .i64)) (by rfl) (by exact hlen1) (by exact fun h => hsrc1.out _ (by go_grown; all_goals omega) h) (ints_oneCell _ _) (by unfold maxLen; omega) (by omega) (by first | (simp; done) | (simp; omega) | omega) ?_; intro v1 w1 hown1 hgrow1 hat1; have HB1 : Hid (Below wo.heap.size wo w1) := Lib.hid (Below.grown (by go_grown; all_goals omega) hgrow1 (by first | (simp; done) | (simp; omega) | omega) (by intro kk e; cases e; first | (simp; done) | (simp; omega))); have HOWN1 := Lib.hid hown1; have HGROW1 := Lib.hid hgrow1; clear hown1 hgrow1 hat1)
            | (refine step_append_src _ (by rfl) (.tmp 32) (.tmp 34) 22 (by rfl) wo.heap.size 3 i0 (.int .i64 0) 8 Try.underlying22 hi hz0 hz1 hz2 rfl v1 (0 + 0) _ (by rfl) (by first | exact HOWN1.out | exact HOWN1.out.alloc _) (some ⟨_, 0, none⟩) 1 1 [.int .i64 (ix xs ([] : List Int).length)] (by rfl) rfl (fun _ => ⟨_, rfl, one_news (by first | (simp; done) | (rw [HGROW1.out.cell_far _ (by first | (simp; done) | (simp; omega) | omega) (by simp [Value.ownBlock]; done)]; simp; done))⟩) (ints_oneCell _ [ix xs ([] : List Int).length]) (by unfold maxLen; omega) (by omega) (by first | exact HB1.out.size | (have := HB1.out.size; simp; omega)) ?_; intro v2 w2 hown2 hgrow2 hat2; have HB2 : Hid (Below wo.heap.size wo w2) := Lib.hid (Below.grown (by first | exact HB1.out | exact HB1.out.alloc HB1.out.size _) hgrow2 (by first | exact HB1.out.size | (have := HB1.out.size; simp; omega)) (fun kk e => (HOWN1.out.lt kk e).1)); have HOWN2 := Lib.hid hown2; clear hown2 hgrow2 hat2)
            | (refine step_append_src _ (by rfl) (.tmp 35) (.tmp 38) 22 (by rfl) wo.heap.size 3 i0 (.int .i64 0) 8 Try.underlying22 hi hz0 hz1 hz2 rfl v2 (0 + 0 + 1) _ (by rfl) HOWN2.out _ _ _ ((([] : List Int).drop 0).map (Value.int .i64)) (by rfl) (by exact hlen2) (by exact fun h => hsrc2.out _ HB2.out h) (ints_oneCell _ _) (by unfold maxLen; omega) (by omega) HB2.out.size ?_; intro v3 w3 hown3 hgrow3 hat3; have HB3 : Hid (Below wo.heap.size wo w3) := Lib.hid (Below.grown HB2.out hgrow3 HB2.out.size (fun kk e => (HOWN2.out.lt kk e).1)); have HOWN3 := Lib.hid hown3; clear hown3 hgrow3 hat3)
            )
          all_goals
            go_wp2
            go_roundw
            case rel => exact ins_rel HB.out HB3.out HOWN3.out hlt (by simp; first | done | omega) HSO.out hj hall.out (by first | exact .inl rfl | exact .inl (by omega) | exact .inr (by omega))
            case measure => simp [intOf]; omega
      · have hcap : zs.length ≤ cap := by
          rcases ho.2 with ⟨h, _⟩ | ⟨g', cap', cur, h, _, _, h', _⟩
          · cases h
          · cases h; exact h'
        have hcz : Hid (∀ i, i < zs.length → wo.cell? ⟨g, i, none⟩ = some (.int .i64 (ix zs i))) := Lib.hid (fun i hi => by
          rw [ho.cellAt i (by omega), List.getElem?_map, List.getElem?_eq_getElem hi]
          simp [ix, List.getD_eq_getElem?_getD, List.getElem?_eq_getElem hi])
        clear hc ho hb
        go_wp2
        go_loop [6] (fun q => ∃ j : Nat, j ≤ zs.length ∧ q = .int .i64 j ∧ Hid (∀ i, j ≤ i → i < zs.length → ix zs i < ix xs zs.length)) (fun q => (intOf q).toNat)
        case atStart => exact ⟨zs.length, Nat.le_refl _, rfl, Lib.hid (fun i h1 h2 => absurd h1 (by omega))⟩
        case round =>
          obtain ⟨j, hj, rfl, hall⟩ := hrel
          have hsrc1 : Hid (∀ W : World, Below wo.heap.size wo W → 0 < j → ∃ ad, (some ⟨g, 0, none⟩ : Option Addr) = some ad ∧ ∀ jj u, ((zs.take j).map (Value.int .i64))[jj]? = some u → W.cell? (ad.add jj) = some u) := Lib.hid (fun W hW _ => ⟨_, rfl, fun jj u hu => own_cells (j := 0) (m := j) HO.out (by omega) W hW jj u (by simpa using hu)⟩)
          have hlen1 : ((zs.take j).map (Value.int .i64)).length = j := by simp; omega
          have q1 : (0 : Int) ≤ (j : Int) := by omega
          have q2 : (j : Int) ≤ (zs.length : Int) := by omega
          have q3 : (j : Int) ≤ (cap : Int) := by omega
          by_cases hj0 : 1 ≤ j
          · have hi1 : (0 : Int) ≤ (j : Int) - 1 := by omega
            have hi2 : (j : Int) - 1 < (zs.length : Int) := by omega
            have hcj := hcz.out (j - 1) (by omega)
            by_cases hlt2 : ix zs (j - 1) < ix xs zs.length
            · go_wp2
              go_round
              case rel => exact ⟨j - 1, by omega, by go_num, Lib.hid (fun i h1 h2 => by
                by_cases e : i = j - 1
                · subst e; exact hlt2
                · exact hall.out i (by omega) h2)⟩
              case measure => simp [intOf]; omega
            · go_wp2
              rcases Nat.lt_or_ge j zs.length with hjk | hjk
              · have q4 : ¬ cap = j := by omega
                have hsrc2 : Hid (∀ W : World, Below wo.heap.size wo W → 0 < zs.length - j → ∃ ad, (some ⟨g, j, none⟩ : Option Addr) = some ad ∧ ∀ jj u, ((zs.drop j).map (Value.int .i64))[jj]? = some u → W.cell? (ad.add jj) = some u) := Lib.hid (fun W hW _ => ⟨_, rfl, fun jj u hu => own_cells (j := j) (m := zs.length - j) HO.out (by omega) W hW jj u (by rw [List.take_of_length_le (by simp)]; exact hu)⟩)
                have hlen2 : ((zs.drop j).map (Value.int .i64)).length = zs.length - j := by simp
                go_region_held3 (fun _ => True) (trivial) (first
                  | (refine step_append_src _ (by rfl) (.tmp 28) (.tmp 31) 22 (by rfl) wo.heap.size 3 i0 (.int .i64 0) 8 Try.underlying22 hi hz0 hz1 hz2 rfl (.slice (some ⟨_, 0, none⟩) 0 0) 0 [] (by rfl) (by exact owns_empty _ _ _ _ (by first | (simp; done) | (simp; omega) | omega) (by first | exact heap_at_new _ _ _ (by simp; done) | exact heap_at_old _ _ _ _ (by first | (simp; done) | (simp; omega) | omega) (heap_at_new _ _ _ (by simp; done)))) _ _ _ ((zs.take j).map (Value.int .i64)) (by rfl) (by exact hlen1) (by exact fun h => hsrc1.out _ (by go_grown; all_goals omega) h) (ints_oneCell _ _) (by unfold maxLen; omega) (by omega) (by first | (simp; done) | (simp; omega) | omega) ?_; intro v1 w1 hown1 hgrow1 hat1; have HB1 : Hid (Below wo.heap.size wo w1) := Lib.hid (Below.grown (by go_grown; all_goals omega) hgrow1 (by first | (simp; done) | (simp; omega) | omega) (by intro kk e; cases e; first | (simp; done) | (simp; omega))); have HOWN1 := Lib.hid hown1; have HGROW1 := Lib.hid hgrow1; clear hown1 hgrow1 hat1)
                  | (refine step_append_src _ (by rfl) (.tmp 32) (.tmp 34) 22 (by rfl) wo.heap.size 3 i0 (.int .i64 0) 8 Try.underlying22 hi hz0 hz1 hz2 rfl v1 (0 + j) _ (by rfl) (by first | exact HOWN1.out | exact HOWN1.out.alloc _) (some ⟨_, 0, none⟩) 1 1 [.int .i64 (ix xs zs.length)] (by rfl) rfl (fun _ => ⟨_, rfl, one_news (by first | (simp; done) | (rw [HGROW1.out.cell_far _ (by first | (simp; done) | (simp; omega) | omega) (by simp [Value.ownBlock]; done)]; simp; done))⟩) (ints_oneCell _ [ix xs zs.length]) (by unfold maxLen; omega) (by omega) (by first | exact HB1.out.size | (have := HB1.out.size; simp; omega)) ?_; intro v2 w2 hown2 hgrow2 hat2; have HB2 : Hid (Below wo.heap.size wo w2) := Lib.hid (Below.grown (by first | exact HB1.out | exact HB1.out.alloc HB1.out.size _) hgrow2 (by first | exact HB1.out.size | (have := HB1.out.size; simp; omega)) (fun kk e => (HOWN1.out.lt kk e).1)); have HOWN2 := Lib.hid hown2; clear hown2 hgrow2 hat2)
                  | (refine step_append_src _ (by rfl) (.tmp 35) (.tmp 38) 22 (by rfl) wo.heap.size 3 i0 (.int .i64 0) 8 Try.underlying22 hi hz0 hz1 hz2 rfl v2 (0 + j + 1) _ (by rfl) HOWN2.out _ _ _ ((zs.drop j).map (Value.int .i64)) (by rfl) (by exact hlen2) (by exact fun h => hsrc2.out _ HB2.out h) (ints_oneCell _ _) (by unfold maxLen; omega) (by omega) HB2.out.size ?_; intro v3 w3 hown3 hgrow3 hat3; have HB3 : Hid (Below wo.heap.size wo w3) := Lib.hid (Below.grown HB2.out hgrow3 HB2.out.size (fun kk e => (HOWN2.out.lt kk e).1)); have HOWN3 := Lib.hid hown3; clear hown3 hgrow3 hat3)
                  )
                all_goals
                  go_wp2
                  go_roundw
                  case rel => exact ins_rel HB.out HB3.out HOWN3.out hlt (by simp; first | done | omega) HSO.out hj hall.out (by first | exact .inl rfl | exact .inl (by omega) | exact .inr (by omega))
                  case measure => simp [intOf]; omega
              · obtain rfl : j = zs.length := by omega
                have hlen2 : ((zs.drop zs.length).map (Value.int .i64)).length = 0 := by simp
                by_cases q4 : cap = zs.length
                · have hsrc2 : Hid (∀ W : World, Below wo.heap.size wo W → 0 < 0 → ∃ ad, (some ⟨g, 0, none⟩ : Option Addr) = some ad ∧ ∀ jj u, ((zs.drop zs.length).map (Value.int .i64))[jj]? = some u → W.cell? (ad.add jj) = some u) := Lib.hid (fun W _ h => absurd h (by omega))
                  go_region_held3 (fun _ => True) (trivial) (first
                    | (refine step_append_src _ (by rfl) (.tmp 28) (.tmp 31) 22 (by rfl) wo.heap.size 3 i0 (.int .i64 0) 8 Try.underlying22 hi hz0 hz1 hz2 rfl (.slice (some ⟨_, 0, none⟩) 0 0) 0 [] (by rfl) (by exact owns_empty _ _ _ _ (by first | (simp; done) | (simp; omega) | omega) (by first | exact heap_at_new _ _ _ (by simp; done) | exact heap_at_old _ _ _ _ (by first | (simp; done) | (simp; omega) | omega) (heap_at_new _ _ _ (by simp; done)))) _ _ _ ((zs.take zs.length).map (Value.int .i64)) (by rfl) (by exact hlen1) (by exact fun h => hsrc1.out _ (by go_grown; all_goals omega) h) (ints_oneCell _ _) (by unfold maxLen; omega) (by omega) (by first | (simp; done) | (simp; omega) | omega) ?_; intro v1 w1 hown1 hgrow1 hat1; have HB1 : Hid (Below wo.heap.size wo w1) := Lib.hid (Below.grown (by go_grown; all_goals omega) hgrow1 (by first | (simp; done) | (simp; omega) | omega) (by intro kk e; cases e; first | (simp; done) | (simp; omega))); have HOWN1 := Lib.hid hown1; have HGROW1 := Lib.hid hgrow1; clear hown1 hgrow1 hat1)
                    | (refine step_append_src _ (by rfl) (.tmp 32) (.tmp 34) 22 (by rfl) wo.heap.size 3 i0 (.int .i64 0) 8 Try.underlying22 hi hz0 hz1 hz2 rfl v1 (0 + zs.length) _ (by rfl) (by first | exact HOWN1.out | exact HOWN1.out.alloc _) (some ⟨_, 0, none⟩) 1 1 [.int .i64 (ix xs zs.length)] (by rfl) rfl (fun _ => ⟨_, rfl, one_news (by first | (simp; done) | (rw [HGROW1.out.cell_far _ (by first | (simp; done) | (simp; omega) | omega) (by simp [Value.ownBlock]; done)]; simp; done))⟩) (ints_oneCell _ [ix xs zs.length]) (by unfold maxLen; omega) (by omega) (by first | exact HB1.out.size | (have := HB1.out.size; simp; omega)) ?_; intro v2 w2 hown2 hgrow2 hat2; have HB2 : Hid (Below wo.heap.size wo w2) := Lib.hid (Below.grown (by first | exact HB1.out | exact HB1.out.alloc HB1.out.size _) hgrow2 (by first | exact HB1.out.size | (have := HB1.out.size; simp; omega)) (fun kk e => (HOWN1.out.lt kk e).1)); have HOWN2 := Lib.hid hown2; clear hown2 hgrow2 hat2)
                    | (refine step_append_src _ (by rfl) (.tmp 35) (.tmp 38) 22 (by rfl) wo.heap.size 3 i0 (.int .i64 0) 8 Try.underlying22 hi hz0 hz1 hz2 rfl v2 (0 + zs.length + 1) _ (by rfl) HOWN2.out _ _ _ ((zs.drop zs.length).map (Value.int .i64)) (by rfl) (by exact hlen2) (by exact fun h => hsrc2.out _ HB2.out h) (ints_oneCell _ _) (by unfold maxLen; omega) (by omega) HB2.out.size ?_; intro v3 w3 hown3 hgrow3 hat3; have HB3 : Hid (Below wo.heap.size wo w3) := Lib.hid (Below.grown HB2.out hgrow3 HB2.out.size (fun kk e => (HOWN2.out.lt kk e).1)); have HOWN3 := Lib.hid hown3; clear hown3 hgrow3 hat3)
                    )
                  all_goals
                    go_wp2
                    go_roundw
                    case rel => exact ins_rel HB.out HB3.out HOWN3.out hlt (by simp; first | done | omega) HSO.out hj hall.out (by first | exact .inl rfl | exact .inl (by omega) | exact .inr (by omega))
                    case measure => simp [intOf]; omega
                · have hsrc2 : Hid (∀ W : World, Below wo.heap.size wo W → 0 < 0 → ∃ ad, (some ⟨g, zs.length, none⟩ : Option Addr) = some ad ∧ ∀ jj u, ((zs.drop zs.length).map (Value.int .i64))[jj]? = some u → W.cell? (ad.add jj) = some u) := Lib.hid (fun W _ h => absurd h (by omega))
                  go_region_held3 (fun _ => True) (trivial) (first
                    | (refine step_append_src _ (by rfl) (.tmp 28) (.tmp 31) 22 (by rfl) wo.heap.size 3 i0 (.int .i64 0) 8 Try.underlying22 hi hz0 hz1 hz2 rfl (.slice (some ⟨_, 0, none⟩) 0 0) 0 [] (by rfl) (by exact owns_empty _ _ _ _ (by first | (simp; done) | (simp; omega) | omega) (by first | exact heap_at_new _ _ _ (by simp; done) | exact heap_at_old _ _ _ _ (by first | (simp; done) | (simp; omega) | omega) (heap_at_new _ _ _ (by simp; done)))) _ _ _ ((zs.take zs.length).map (Value.int .i64)) (by rfl) (by exact hlen1) (by exact fun h => hsrc1.out _ (by go_grown; all_goals omega) h) (ints_oneCell _ _) (by unfold maxLen; omega) (by omega) (by first | (simp; done) | (simp; omega) | omega) ?_; intro v1 w1 hown1 hgrow1 hat1; have HB1 : Hid (Below wo.heap.size wo w1) := Lib.hid (Below.grown (by go_grown; all_goals omega) hgrow1 (by first | (simp; done) | (simp; omega) | omega) (by intro kk e; cases e; first | (simp; done) | (simp; omega))); have HOWN1 := Lib.hid hown1; have HGROW1 := Lib.hid hgrow1; clear hown1 hgrow1 hat1)
                    | (refine step_append_src _ (by rfl) (.tmp 32) (.tmp 34) 22 (by rfl) wo.heap.size 3 i0 (.int .i64 0) 8 Try.underlying22 hi hz0 hz1 hz2 rfl v1 (0 + zs.length) _ (by rfl) (by first | exact HOWN1.out | exact HOWN1.out.alloc _) (some ⟨_, 0, none⟩) 1 1 [.int .i64 (ix xs zs.length)] (by rfl) rfl (fun _ => ⟨_, rfl, one_news (by first | (simp; done) | (rw [HGROW1.out.cell_far _ (by first | (simp; done) | (simp; omega) | omega) (by simp [Value.ownBlock]; done)]; simp; done))⟩) (ints_oneCell _ [ix xs zs.length]) (by unfold maxLen; omega) (by omega) (by first | exact HB1.out.size | (have := HB1.out.size; simp; omega)) ?_; intro v2 w2 hown2 hgrow2 hat2; have HB2 : Hid (Below wo.heap.size wo w2) := Lib.hid (Below.grown (by first | exact HB1.out | exact HB1.out.alloc HB1.out.size _) hgrow2 (by first | exact HB1.out.size | (have := HB1.out.size; simp; omega)) (fun kk e => (HOWN1.out.lt kk e).1)); have HOWN2 := Lib.hid hown2; clear hown2 hgrow2 hat2)
                    | (refine step_append_src _ (by rfl) (.tmp 35) (.tmp 38) 22 (by rfl) wo.heap.size 3 i0 (.int .i64 0) 8 Try.underlying22 hi hz0 hz1 hz2 rfl v2 (0 + zs.length + 1) _ (by rfl) HOWN2.out _ _ _ ((zs.drop zs.length).map (Value.int .i64)) (by rfl) (by exact hlen2) (by exact fun h => hsrc2.out _ HB2.out h) (ints_oneCell _ _) (by unfold maxLen; omega) (by omega) HB2.out.size ?_; intro v3 w3 hown3 hgrow3 hat3; have HB3 : Hid (Below wo.heap.size wo w3) := Lib.hid (Below.grown HB2.out hgrow3 HB2.out.size (fun kk e => (HOWN2.out.lt kk e).1)); have HOWN3 := Lib.hid hown3; clear hown3 hgrow3 hat3)
                    )
                  all_goals
                    go_wp2
                    go_roundw
                    case rel => exact ins_rel HB.out HB3.out HOWN3.out hlt (by simp; first | done | omega) HSO.out hj hall.out (by first | exact .inl rfl | exact .inl (by omega) | exact .inr (by omega))
                    case measure => simp [intOf]; omega
          · obtain rfl : j = 0 := by omega
            go_wp2
            rcases Nat.lt_or_ge 0 zs.length with hjk | hjk
            · have q4 : ¬ cap = 0 := by omega
              have hsrc2 : Hid (∀ W : World, Below wo.heap.size wo W → 0 < zs.length → ∃ ad, (some ⟨g, 0, none⟩ : Option Addr) = some ad ∧ ∀ jj u, ((zs.drop 0).map (Value.int .i64))[jj]? = some u → W.cell? (ad.add jj) = some u) := Lib.hid (fun W hW _ => ⟨_, rfl, fun jj u hu => own_cells (j := 0) (m := zs.length) HO.out (by omega) W hW jj u (by rw [List.take_of_length_le (by simp)]; exact hu)⟩)
              have hlen2 : ((zs.drop 0).map (Value.int .i64)).length = zs.length := by simp
              go_region_held3 (fun _ => True) (trivial) (first
                | (refine step_append_src _ (by rfl) (.tmp 28) (.tmp 31) 22 (by rfl) wo.heap.size 3 i0 (.int .i64 0) 8 Try.underlying22 hi hz0 hz1 hz2 rfl (.slice (some ⟨_, 0, none⟩) 0 0) 0 [] (by rfl) (by exact owns_empty _ _ _ _ (by first | (simp; done) | (simp; omega) | omega) (by first | exact heap_at_new _ _ _ (by simp; done) | exact heap_at_old _ _ _ _ (by first | (simp; done) | (simp; omega) | omega) (heap_at_new _ _ _ (by simp; done)))) _ _ _ ((zs.take 0).map (Value.int .i64)) (by rfl) (by exact hlen1) (by exact fun h => hsrc1.out _ (by go_grown; all_goals omega) h) (ints_oneCell _ _) (by unfold maxLen; omega) (by omega) (by first | (simp; done) | (simp; omega) | omega) ?_; intro v1 w1 hown1 hgrow1 hat1; have HB1 : Hid (Below wo.heap.size wo w1) := Lib.hid (Below.grown (by go_grown; all_goals omega) hgrow1 (by first | (simp; done) | (simp; omega) | omega) (by intro kk e; cases e; first | (simp; done) | (simp; omega))); have HOWN1 := Lib.hid hown1; have HGROW1 := Lib.hid hgrow1; clear hown1 hgrow1 hat1)
                | (refine step_append_src _ (by rfl) (.tmp 32) (.tmp 34) 22 (by rfl) wo.heap.size 3 i0 (.int .i64 0) 8 Try.underlying22 hi hz0 hz1 hz2 rfl v1 (0 + 0) _ (by rfl) (by first | exact HOWN1.out | exact HOWN1.out.alloc _) (some ⟨_, 0, none⟩) 1 1 [.int .i64 (ix xs zs.length)] (by rfl) rfl (fun _ => ⟨_, rfl, one_news (by first | (simp; done) | (rw [HGROW1.out.cell_far _ (by first | (simp; done) | (simp; omega) | omega) (by simp [Value.ownBlock]; done)]; simp; done))⟩) (ints_oneCell _ [ix xs zs.length]) (by unfold maxLen; omega) (by omega) (by first | exact HB1.out.size | (have := HB1.out.size; simp; omega)) ?_; intro v2 w2 hown2 hgrow2 hat2; have HB2 : Hid (Below wo.heap.size wo w2) := Lib.hid (Below.grown (by first | exact HB1.out | exact HB1.out.alloc HB1.out.size _) hgrow2 (by first | exact HB1.out.size | (have := HB1.out.size; simp; omega)) (fun kk e => (HOWN1.out.lt kk e).1)); have HOWN2 := Lib.hid hown2; clear hown2 hgrow2 hat2)
                | (refine step_append_src _ (by rfl) (.tmp 35) (.tmp 38) 22 (by rfl) wo.heap.size 3 i0 (.int .i64 0) 8 Try.underlying22 hi hz0 hz1 hz2 rfl v2 (0 + 0 + 1) _ (by rfl) HOWN2.out _ _ _ ((zs.drop 0).map (Value.int .i64)) (by rfl) (by exact hlen2) (by exact fun h => hsrc2.out _ HB2.out h) (ints_oneCell _ _) (by unfold maxLen; omega) (by omega) HB2.out.size ?_; intro v3 w3 hown3 hgrow3 hat3; have HB3 : Hid (Below wo.heap.size wo w3) := Lib.hid (Below.grown HB2.out hgrow3 HB2.out.size (fun kk e => (HOWN2.out.lt kk e).1)); have HOWN3 := Lib.hid hown3; clear hown3 hgrow3 hat3)
                )
              all_goals
                go_wp2
                go_roundw
                case rel => exact ins_rel HB.out HB3.out HOWN3.out hlt (by simp; first | done | omega) HSO.out hj hall.out (by first | exact .inl rfl | exact .inl (by omega) | exact .inr (by omega))
                case measure => simp [intOf]; omega
            · obtain rfl : zs = [] := List.eq_nil_of_length_eq_zero (by omega)
              exact absurd (HNIL.out rfl) (by simp)
    · have HO := Lib.hid ho
      have HB := Lib.hid hb
      have hfull : xs.take zs.length = xs := List.take_of_length_le (by omega)
      have HS2 : Hid (SortedOf xs zs) := by have := HSO.out; rw [hfull] at this; exact this
      clear ho hb hfull
      go_wp2
      go_ret
      exact ⟨_, zs, rfl, HS2.out, HO.out, HB.out⟩
end Go.Proofs.Ytnambmpnolkfjaa.One
