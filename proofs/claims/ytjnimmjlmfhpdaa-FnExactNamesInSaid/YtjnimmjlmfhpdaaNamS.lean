/- NamesIn in the model. -/
import Derived.Test.YtjnimmjlmfhpdaaNamI
import Derived.Lib.SmallJoins
import Derived.Deep.RegionHeld3
import Derived.Deep.AppendLies
namespace Go.Proofs.Ytjnimmjlmfhpdaa
open Go.ChangeShapes Go.WideShapes Go.ChangeAt Go.RowKit Go.PlainAid
set_option linter.unusedVariables false

theorem heap_at_old (w : World) (o x : Obj) (g : Nat) (h : g < w.heap.size) (k : w.heap[g]? = some x) : (w.alloc o).heap[g]? = some x := (heap_alloc_old w o h).trans k
theorem one_news {W : World} {p : Addr} {x : Value} (h : W.cell? p = some x) : ∀ j u, [x][j]? = some u → W.cell? (p.add j) = some u := fun j u hj => by
  match j, hj with
  | 0, hj =>
    simp at hj
    subst hj
    have : p.add 0 = p := by unfold Addr.add; simp
    rw [this]
    exact h
theorem own_cellsV {w : World} {base g cap n j m : Nat} {cs : List Value} (h : w.ownsRow base 9 1 (.slice (some ⟨g, 0, none⟩) n cap) n cs) (hm : j + m ≤ n) (W : World) (hb : Below w.heap.size w W) :
    ∀ i u, ((cs.drop j).take m)[i]? = some u → W.cell? ((⟨g, j, none⟩ : Addr).add i) = some u := fun i u hu => by
  have hlt := (h.lt g rfl).2
  have hcs : cs.length = n := by have := h.1; omega
  have hi : i < m := by
    rcases Nat.lt_or_ge i m with h | h
    · exact h
    · rw [List.getElem?_eq_none (by simp; omega)] at hu
      cases hu
  have ha : (⟨g, j, none⟩ : Addr).add i = ⟨g, j + i, none⟩ := by unfold Addr.add; split <;> simp_all
  rw [ha, hb.cell (p := ⟨g, j + i, none⟩) hlt, h.cellAt (j + i) (by omega), ← hu]
  simp [hi]
theorem eS_one (l : List Bs) : ∀ u ∈ l.map eS, u.oneCell' = true := fun u hu => by
  obtain ⟨x, _, rfl⟩ := List.mem_map.1 hu
  rfl
theorem take_one {cs : List Value} (h : ∀ u ∈ cs, u.oneCell' = true) (j : Nat) : ∀ u ∈ cs.take j, u.oneCell' = true := fun u hu => h u (List.mem_of_mem_take hu)
theorem drop_one {cs : List Value} (h : ∀ u ∈ cs, u.oneCell' = true) (j : Nat) : ∀ u ∈ cs.drop j, u.oneCell' = true := fun u hu => h u (List.mem_of_mem_drop hu)
theorem str_one1 (s : ByteArray) : ∀ u ∈ [Value.string s], u.oneCell' = true := fun u hu => by
  obtain rfl := List.mem_singleton.1 hu
  rfl

/-- The row holds the names of N, each one once, in their order. -/
structure NRel (w1 : World) (N : List Bs) (v : Value) (wr : World) (zs : List Bs) : Prop where
  uof : UOf N zs
  own : wr.ownsRow w1.heap.size 9 1 v zs.length (zs.map eS)
  below : Below w1.heap.size w1 wr
  nil_ : zs = [] → v = .slice none 0 0
  le : zs.length ≤ N.length
theorem NRel.alloc {w1 wr : World} {N zs : List Bs} {v : Value} (h : NRel w1 N v wr zs) (ob : Obj) : NRel w1 N v (wr.alloc ob) zs :=
  ⟨h.uof, h.own.alloc _, below_next h.below (below_alloc _ _), h.nil_, h.le⟩
theorem NRel.seen {w1 wr : World} {N zs : List Bs} {v : Value} {x : Bs} (h : NRel w1 N v wr zs) (hx : x ∈ zs) : NRel w1 (N ++ [x]) v wr zs :=
  ⟨h.uof.seen hx, h.own, h.below, h.nil_, by have := h.le; rw [List.length_append]; simp; omega⟩
theorem NRel.put {w1 wo w3 : World} {N zs : List Bs} {v v3 : Value} {s : ByteArray} {j n : Nat} (h : NRel w1 N v wo zs) (hb3 : Below wo.heap.size wo w3)
    (ho : w3.ownsRow wo.heap.size 9 1 v3 n ([] ++ (zs.map eS).take j ++ [.string s] ++ (zs.map eS).drop j)) (hn : n = zs.length + 1) (hj : j ≤ zs.length)
    (h1 : ∀ y, y ∈ zs.take j → y < toL s) (h2 : ∀ y, y ∈ zs.drop j → toL s < y) : ∃ ys, NRel w1 (N ++ [toL s]) v3 w3 ys := by
  have hl : (zs.take j ++ toL s :: zs.drop j).length = zs.length + 1 := by
    rw [List.length_append, List.length_cons, List.length_take, List.length_drop]
    omega
  refine ⟨zs.take j ++ toL s :: zs.drop j, h.uof.put j hj h1 h2, ?_, h.below.trans (hb3.mono h.below.size), fun e => by have := congrArg List.length e; rw [hl] at this; simp at this, by rw [hl, List.length_append]; have := h.le; simp; omega⟩
  subst hn
  rw [hl]
  have e : (zs.take j ++ toL s :: zs.drop j).map eS = [] ++ (zs.map eS).take j ++ [.string s] ++ (zs.map eS).drop j := by
    rw [List.map_append, List.map_cons, List.map_take, List.map_drop, eS_toL]
    simp
  rw [e]
  exact Joins.ownsRow_le ho h.below.size
/-- The text at a place. -/
def zat (zs : List Bs) (i : Nat) : Bs := zs.getD i []
theorem zat_get {zs : List Bs} {i : Nat} (h : i < zs.length) : zat zs i = zs[i] := by
  unfold zat
  rw [List.getD_eq_getElem?_getD, List.getElem?_eq_getElem h]
  rfl
theorem bless_eq : ∀ (x y : Bs), Op.bytesLess x y = decide (x < y)
  | [], [] => by simp [Op.bytesLess]
  | _ :: _, [] => by simp [Op.bytesLess]
  | [], _ :: _ => by simp [Op.bytesLess]
  | a :: x, b :: y => by
    rw [Op.bytesLess, bless_eq x y]
    simp only [List.cons_lt_cons_iff]
    by_cases h1 : a < b <;> by_cases h2 : a = b <;> by_cases h3 : x < y <;> simp [h1, h2, h3]
theorem str_less (a : Bs) (s : ByteArray) : Op.bytesLess (toB a).toList s.toList = decide (a < toL s) := by
  rw [bless_eq, toL_eq, toL_eq, toL_toB]
theorem mem_take_lt {zs : List Bs} {j : Nat} {x : Bs} (hj : j ≤ zs.length) (h : ∀ i, i < j → zat zs i < x) : ∀ y, y ∈ zs.take j → y < x := fun y hy => by
  obtain ⟨i, hi, rfl⟩ := List.getElem_of_mem hy
  rw [List.length_take] at hi
  have := h i (by omega)
  rw [zat_get (by omega)] at this
  rw [List.getElem_take]
  exact this
theorem mem_drop_lt {zs : List Bs} {j : Nat} {x : Bs} (hs : Strict zs) (hj : j < zs.length) (h : x < zat zs j) : ∀ y, y ∈ zs.drop j → x < y := fun y hy => by
  obtain ⟨i, hi, rfl⟩ := List.getElem_of_mem hy
  rw [List.length_drop] at hi
  rw [zat_get hj] at h
  rw [List.getElem_drop]
  rcases Nat.eq_zero_or_pos i with e | e
  · subst e
    exact h
  · exact blt_trans h (List.pairwise_iff_getElem.1 hs j (j + i) hj (by omega) (by omega))
theorem names_next (ns : List ByteArray) (m : Nat) (h : m < ns.length) : (ns.take (m + 1)).map toL = (ns.take m).map toL ++ [toL (it ns m)] := by
  rw [List.take_add_one, it_get ns m h, List.map_append]
  rfl
theorem text_ne' {a b : ByteArray} (h : ¬ a = b) : (!a.toList == b.toList) = true := by
  rw [Go.ByteArray.toList_eq, Go.ByteArray.toList_eq, Bool.not_eq_true', beq_eq_false_iff_ne]
  exact fun e => h (ByteArray.ext (Array.ext' e))
theorem own_formS {w : World} {B : Nat} {e : TypeId} {v : Value} (zs : List Bs) (h : w.ownsRow B e 1 v zs.length (zs.map eS)) : ∃ R d g, v = .slice R zs.length d ∧ Owned (fun i => i = g) w R (zs.map toB) ∧ (0 < zs.length → B ≤ g ∧ g < w.heap.size) := by
  rcases h.2 with ⟨hv, h0⟩ | ⟨g, cap, cur, rfl, h3, h4, h5⟩
  · exact ⟨none, 0, 0, by rw [hv, h0], fun hp => by rw [List.length_map] at hp; omega, fun hp => absurd hp (by omega)⟩
  · have hlt := h.lt g rfl
    exact ⟨some ⟨g, 0, none⟩, cap, g, rfl, fun _ => ⟨g, 0, rfl, rfl, hlt.2, (SRow.of_own h).own⟩, fun _ => ⟨hlt.1, hlt.2⟩⟩

set_option maxRecDepth 20000 in
set_option maxHeartbeats 8000000 in
theorem sNamesIn_any (P : Option Addr) (c : Nat) (xs : List Im) (w : World) (hr : Ims w w.heap.size P xs) (hl : ImsFits xs) :
    Calls Try.prog 40 #[.slice P xs.length c] w fun e w' => (∃ R d, e = .returned (.tuple #[.slice R (nmF xs).length d, .bool (pB (ListOk xs))]) ∧ Owned (fun i => w.heap.size ≤ i ∧ i < w'.heap.size) w' R (nmF xs)) ∧ Below w.heap.size w w' := by
  have HA := Lib.hid (itList_any P c xs w hr hl)
  have HR := Lib.hid hr
  clear hr hl
  by_cases hok : ListOk xs
  · rw [pB_yes hok] at HA ⊢
    rw [nmF_yes hok]
    obtain ⟨i0, hi, hz0, hz1, hz2⟩ := info_parts Try.infoStr
    have HZ := Lib.hid (And.intro hi (And.intro hz0 (And.intro hz1 hz2)))
    have HK := Lib.hid hok
    have HLN := Lib.hid (namesTo_len xs hok)
    have h14 := hok.len
    clear hok hi hz0 hz1 hz2
    go_enter Try.func40, Try.ntmps40
    go_wp2_with fail
    refine HA.out.mono ?_
    rintro e w1 ⟨rfl, hb1⟩
    have HB1 := Lib.hid hb1
    have hs01 := hb1.size
    clear hb1 HA
    go_wp2_with fail
    go_loopw [4, 15] (fun v i wr => ∃ (k : Nat) (zs : List Bs), k ≤ xs.length ∧ i = .int .i64 k ∧ Hid (NRel w1 (namesTo xs k) v wr zs)) (fun _ i _ => xs.length - (intOf i).toNat)
    case atStart => exact ⟨0, [], Nat.zero_le _, rfl, Lib.hid ⟨UOf.nil, ⟨rfl, .inl ⟨rfl, rfl⟩⟩, Below.refl _ _, fun _ => rfl, Nat.le_refl _⟩⟩
    case round =>
      obtain ⟨k, zs, hk, rfl, HN⟩ := hrel
      have hbw := below_next HB1.out HN.out.below
      by_cases hlt : k < xs.length
      · obtain ⟨b, o, rfl, hbl, hc⟩ := HR.out.out.im (by omega)
        obtain ⟨c0, c1, c2⟩ := (hc k hlt).below hbw hbl
        have hn3 := (HK.out.each k hlt).hi
        have hn1 := (HK.out.each k hlt).lo
        have hln := (HLN.out k hk).2
        obtain ⟨b', o', hA', hbl', hc'⟩ := (HR.out.each k hlt).ns.str hn1
        rw [hA'] at c0
        have HS := Lib.hid hc'
        have HN3 := fun ob => HN.out.alloc ob
        clear hc hc' hbw hA'
        go_wp2_with fail
        clear c0 c1 c2
        generalize hw3 : World.alloc wr _ = w3
        have HN3' := Lib.hid (hw3 ▸ HN3 _)
        clear hw3 HN3
        go_loopw [4, 22] (fun v i wr => ∃ (m : Nat) (zs : List Bs), m ≤ (it xs k).ns.length ∧ i = .int .i64 m ∧ Hid (NRel w1 (namesTo xs k ++ ((it xs k).ns.take m).map toL) v wr zs)) (fun _ i _ => (it xs k).ns.length - (intOf i).toNat)
        case atStart => exact ⟨0, zs, Nat.zero_le _, rfl, Lib.hid (by simpa using HN3'.out)⟩
        case round =>
          clear HN3' HN zs
          obtain ⟨m, zs, hm, rfl, HM⟩ := hrel
          obtain ⟨wo, rfl⟩ : ∃ wo : World, wo = wr := ⟨_, rfl⟩
          by_cases hml : m < (it xs k).ns.length
          · have n0 := ((below_next HB1.out HM.out.below).cell (p := ⟨b', o' + m, none⟩) hbl').trans (HS.out m hml)
            have HNX := Lib.hid (names_next (it xs k).ns m hml)
            have hzl : zs.length ≤ 45 := by
              have := HM.out.le
              rw [List.length_append, List.length_map, List.length_take] at this
              omega
            rcases Joins.ownsRow_forms HM.out.own with ⟨rfl, h0⟩ | ⟨g, cap, rfl⟩
            · obtain rfl : zs = [] := List.eq_nil_of_length_eq_zero h0
              go_wp2
              go_loop [9] (fun q => q = .int .i64 0) (fun _ => 0)
              case atStart => rfl
              case round =>
                obtain rfl := hrel
                go_wp2
                have hsrc1 : Hid (∀ W : World, Below wo.heap.size wo W → 0 < 0 → ∃ ad, (none : Option Addr) = some ad ∧ ∀ jj u, ((([] : List Bs).map eS).take 0)[jj]? = some u → W.cell? (ad.add jj) = some u) := Lib.hid (fun W _ h => absurd h (by omega))
                have hlen1 : ((([] : List Bs).map eS).take 0).length = 0 := rfl
                have hsrc2 : Hid (∀ W : World, Below wo.heap.size wo W → 0 < 0 → ∃ ad, (none : Option Addr) = some ad ∧ ∀ jj u, ((([] : List Bs).map eS).drop 0)[jj]? = some u → W.cell? (ad.add jj) = some u) := Lib.hid (fun W _ h => absurd h (by omega))
                have hlen2 : ((([] : List Bs).map eS).drop 0).length = 0 := rfl
                have h1 : Hid (∀ y, y ∈ ([] : List Bs).take 0 → y < toL (it (it xs k).ns m)) := Lib.hid (fun y hy => by simp at hy)
                have h2 : Hid (∀ y, y ∈ ([] : List Bs).drop 0 → toL (it (it xs k).ns m) < y) := Lib.hid (fun y hy => by simp at hy)
                go_region_held3 (fun _ => True) (trivial) (first
                  | (refine step_append_src _ (by rfl) (.tmp 52) (.tmp 55) 23 (by rfl) wo.heap.size 9 i0 (.string ⟨#[]⟩) 16 Try.underlying23 HZ.out.1 HZ.out.2.1 HZ.out.2.2.1 HZ.out.2.2.2 rfl (.slice (some ⟨_, 0, none⟩) 0 0) 0 [] (by rfl) (by exact owns_emptyN _ _ _ _ _ (by first | (simp; done) | (simp; omega) | omega) (by first | exact heap_at_new _ _ _ (by simp; done) | exact heap_at_old _ _ _ _ (by first | (simp; done) | (simp; omega) | omega) (heap_at_new _ _ _ (by simp; done)))) _ _ _ ((([] : List Bs).map eS).take 0) (by rfl) (by exact hlen1) (by exact fun h => hsrc1.out _ (by go_grown; all_goals omega) h) (take_one (eS_one _) _) (by unfold maxLen; omega) (by omega) (by first | (simp; done) | (simp; omega) | omega) ?_; intro v1 wa hown1 hgrow1 hat1; have HBa : Hid (Below wo.heap.size wo wa) := Lib.hid (Below.grown (by go_grown; all_goals omega) hgrow1 (by first | (simp; done) | (simp; omega) | omega) (by intro kk e; cases e; first | (simp; done) | (simp; omega))); have HOWN1 := Lib.hid hown1; have HGROW1 := Lib.hid hgrow1; clear hown1 hgrow1 hat1)
                  | (refine step_append_src _ (by rfl) (.tmp 56) (.tmp 58) 23 (by rfl) wo.heap.size 9 i0 (.string ⟨#[]⟩) 16 Try.underlying23 HZ.out.1 HZ.out.2.1 HZ.out.2.2.1 HZ.out.2.2.2 rfl v1 (0 + 0) _ (by rfl) (by first | exact HOWN1.out | exact HOWN1.out.alloc _) (some ⟨_, 0, none⟩) 1 1 [.string (it (it xs k).ns m)] (by rfl) rfl (fun _ => ⟨_, rfl, one_news (by first | (simp; done) | (rw [HGROW1.out.cell_far _ (by first | (simp; done) | (simp; omega) | omega) (by simp [Value.ownBlock]; done)]; simp; done))⟩) (str_one1 _) (by unfold maxLen; omega) (by omega) (by first | exact HBa.out.size | (have := HBa.out.size; simp; omega)) ?_; intro v2 wb hown2 hgrow2 hat2; have HBb : Hid (Below wo.heap.size wo wb) := Lib.hid (Below.grown (by first | exact HBa.out | exact HBa.out.alloc HBa.out.size _) hgrow2 (by first | exact HBa.out.size | (have := HBa.out.size; simp; omega)) (fun kk e => (HOWN1.out.lt kk e).1)); have HOWN2 := Lib.hid hown2; clear hown2 hgrow2 hat2)
                  | (refine step_append_src _ (by rfl) (.tmp 59) (.tmp 62) 23 (by rfl) wo.heap.size 9 i0 (.string ⟨#[]⟩) 16 Try.underlying23 HZ.out.1 HZ.out.2.1 HZ.out.2.2.1 HZ.out.2.2.2 rfl v2 (0 + 0 + 1) _ (by rfl) HOWN2.out _ _ _ ((([] : List Bs).map eS).drop 0) (by rfl) (by exact hlen2) (by exact fun h => hsrc2.out _ HBb.out h) (drop_one (eS_one _) _) (by unfold maxLen; omega) (by omega) HBb.out.size ?_; intro v3 w3 hown3 hgrow3 hat3; have HBc : Hid (Below wo.heap.size wo w3) := Lib.hid (Below.grown HBb.out hgrow3 HBb.out.size (fun kk e => (HOWN2.out.lt kk e).1)); have HOWN3 := Lib.hid hown3; clear hown3 hgrow3 hat3))
                all_goals
                  go_wp2
                  go_roundw
                  case rel =>
                    obtain ⟨ys, hys⟩ := HM.out.put HBc.out HOWN3.out (by simp; first | done | omega) (by omega) h1.out h2.out
                    exact ⟨m + 1, ys, by omega, by go_num, Lib.hid (by rw [HNX.out, ← List.append_assoc]; exact hys)⟩
                  case measure => simp [intOf]; omega
            · have hcap := row_cap HM.out.own
              have hcz : Hid (∀ i, i < zs.length → wo.cell? ⟨g, i, none⟩ = some (.string (toB (zat zs i)))) := Lib.hid (fun i hi => by
                rw [HM.out.own.cellAt i (by omega), List.getElem?_map, List.getElem?_eq_getElem hi, zat_get hi]
                rfl)
              go_wp2
              go_loop [9] (fun q => ∃ j : Nat, j ≤ zs.length ∧ q = .int .i64 j ∧ Hid (∀ i, i < j → zat zs i < toL (it (it xs k).ns m))) (fun q => zs.length - (intOf q).toNat)
              case atStart => exact ⟨0, Nat.zero_le _, rfl, Lib.hid (fun i hi => absurd hi (by omega))⟩
              case round =>
                obtain ⟨j, hj, rfl, hall⟩ := hrel
                have q1 : (0 : Int) ≤ (j : Int) := by omega
                have q2 : (j : Int) ≤ (zs.length : Int) := by omega
                have q3 : (j : Int) ≤ (cap : Int) := by omega
                by_cases hjl : j < zs.length
                · have q4 : (j : Int) < (zs.length : Int) := by omega
                  have hcj := hcz.out j hjl
                  by_cases hless : zat zs j < toL (it (it xs k).ns m)
                  · have hd : Op.bytesLess (toB (zat zs j)).toList (it (it xs k).ns m).toList = true := by rw [str_less]; simpa using hless
                    go_wp2
                    go_round
                    case rel => exact ⟨j + 1, by omega, by go_num, Lib.hid (fun i hi => by
                      rcases Nat.lt_or_ge i j with h | h
                      · exact hall.out i h
                      · obtain rfl : i = j := by omega
                        exact hless)⟩
                    case measure => simp [intOf]; omega
                  · have hd : Op.bytesLess (toB (zat zs j)).toList (it (it xs k).ns m).toList = false := by rw [str_less]; simpa using hless
                    by_cases heq : zat zs j = toL (it (it xs k).ns m)
                    · have HSN := Lib.hid (HM.out.seen (x := toL (it (it xs k).ns m)) (by
                        rw [← heq, zat_get hjl]
                        exact List.getElem_mem hjl))
                      rw [heq, toB_toL] at hcj hd
                      have q5 : ¬ (j : Int) = (zs.length : Int) := by omega
                      clear heq
                      go_wp2
                      go_roundw
                      case rel => exact ⟨m + 1, zs, by omega, by go_num, Lib.hid (by rw [HNX.out, ← List.append_assoc]; exact HSN.out)⟩
                      case measure => simp [intOf]; omega
                    · have hne : (!(toB (zat zs j)).toList == (it (it xs k).ns m).toList) = true := text_ne' (fun e => heq (by rw [← e, toL_toB]))
                      have h1 : Hid (∀ y, y ∈ zs.take j → y < toL (it (it xs k).ns m)) := Lib.hid (mem_take_lt hj hall.out)
                      have h2 : Hid (∀ y, y ∈ zs.drop j → toL (it (it xs k).ns m) < y) := Lib.hid (mem_drop_lt HM.out.uof.str hjl (by
                        rcases blt_total (zat zs j) (toL (it (it xs k).ns m)) with h | h | h
                        · exact absurd h hless
                        · exact absurd h heq
                        · exact h))
                      have q5 : ¬ cap = j := by omega
                      have q6 : ¬ j = zs.length := by omega
                      have hsrc1 : Hid (∀ W : World, Below wo.heap.size wo W → 0 < j → ∃ ad, (some ⟨g, 0, none⟩ : Option Addr) = some ad ∧ ∀ jj u, ((zs.map eS).take j)[jj]? = some u → W.cell? (ad.add jj) = some u) := Lib.hid (fun W hW _ => ⟨_, rfl, fun jj u hu => own_cellsV (j := 0) (m := j) HM.out.own (by omega) W hW jj u (by simpa using hu)⟩)
                      have hlen1 : ((zs.map eS).take j).length = j := by simp; omega
                      have hsrc2 : Hid (∀ W : World, Below wo.heap.size wo W → 0 < zs.length - j → ∃ ad, (some ⟨g, j, none⟩ : Option Addr) = some ad ∧ ∀ jj u, ((zs.map eS).drop j)[jj]? = some u → W.cell? (ad.add jj) = some u) := Lib.hid (fun W hW _ => ⟨_, rfl, fun jj u hu => own_cellsV (j := j) (m := zs.length - j) HM.out.own (by omega) W hW jj u (by rw [List.take_of_length_le (by simp)]; exact hu)⟩)
                      have hlen2 : ((zs.map eS).drop j).length = zs.length - j := by simp
                      clear heq hless
                      go_wp2
                      go_region_held3 (fun _ => True) (trivial) (first
                        | (refine step_append_src _ (by rfl) (.tmp 52) (.tmp 55) 23 (by rfl) wo.heap.size 9 i0 (.string ⟨#[]⟩) 16 Try.underlying23 HZ.out.1 HZ.out.2.1 HZ.out.2.2.1 HZ.out.2.2.2 rfl (.slice (some ⟨_, 0, none⟩) 0 0) 0 [] (by rfl) (by exact owns_emptyN _ _ _ _ _ (by first | (simp; done) | (simp; omega) | omega) (by first | exact heap_at_new _ _ _ (by simp; done) | exact heap_at_old _ _ _ _ (by first | (simp; done) | (simp; omega) | omega) (heap_at_new _ _ _ (by simp; done)))) _ _ _ ((zs.map eS).take j) (by rfl) (by exact hlen1) (by exact fun h => hsrc1.out _ (by go_grown; all_goals omega) h) (take_one (eS_one _) _) (by unfold maxLen; omega) (by omega) (by first | (simp; done) | (simp; omega) | omega) ?_; intro v1 wa hown1 hgrow1 hat1; have HBa : Hid (Below wo.heap.size wo wa) := Lib.hid (Below.grown (by go_grown; all_goals omega) hgrow1 (by first | (simp; done) | (simp; omega) | omega) (by intro kk e; cases e; first | (simp; done) | (simp; omega))); have HOWN1 := Lib.hid hown1; have HGROW1 := Lib.hid hgrow1; clear hown1 hgrow1 hat1)
                        | (refine step_append_src _ (by rfl) (.tmp 56) (.tmp 58) 23 (by rfl) wo.heap.size 9 i0 (.string ⟨#[]⟩) 16 Try.underlying23 HZ.out.1 HZ.out.2.1 HZ.out.2.2.1 HZ.out.2.2.2 rfl v1 (0 + j) _ (by rfl) (by first | exact HOWN1.out | exact HOWN1.out.alloc _) (some ⟨_, 0, none⟩) 1 1 [.string (it (it xs k).ns m)] (by rfl) rfl (fun _ => ⟨_, rfl, one_news (by first | (simp; done) | (rw [HGROW1.out.cell_far _ (by first | (simp; done) | (simp; omega) | omega) (by simp [Value.ownBlock]; done)]; simp; done))⟩) (str_one1 _) (by unfold maxLen; omega) (by omega) (by first | exact HBa.out.size | (have := HBa.out.size; simp; omega)) ?_; intro v2 wb hown2 hgrow2 hat2; have HBb : Hid (Below wo.heap.size wo wb) := Lib.hid (Below.grown (by first | exact HBa.out | exact HBa.out.alloc HBa.out.size _) hgrow2 (by first | exact HBa.out.size | (have := HBa.out.size; simp; omega)) (fun kk e => (HOWN1.out.lt kk e).1)); have HOWN2 := Lib.hid hown2; clear hown2 hgrow2 hat2)
                        | (refine step_append_src _ (by rfl) (.tmp 59) (.tmp 62) 23 (by rfl) wo.heap.size 9 i0 (.string ⟨#[]⟩) 16 Try.underlying23 HZ.out.1 HZ.out.2.1 HZ.out.2.2.1 HZ.out.2.2.2 rfl v2 (0 + j + 1) _ (by rfl) HOWN2.out _ _ _ ((zs.map eS).drop j) (by rfl) (by exact hlen2) (by exact fun h => hsrc2.out _ HBb.out h) (drop_one (eS_one _) _) (by unfold maxLen; omega) (by omega) HBb.out.size ?_; intro v3 w3 hown3 hgrow3 hat3; have HBc : Hid (Below wo.heap.size wo w3) := Lib.hid (Below.grown HBb.out hgrow3 HBb.out.size (fun kk e => (HOWN2.out.lt kk e).1)); have HOWN3 := Lib.hid hown3; clear hown3 hgrow3 hat3))
                      all_goals
                        go_wp2
                        go_roundw
                        case rel =>
                          obtain ⟨ys, hys⟩ := HM.out.put HBc.out HOWN3.out (by simp; first | done | omega) (by omega) h1.out h2.out
                          exact ⟨m + 1, ys, by omega, by go_num, Lib.hid (by rw [HNX.out, ← List.append_assoc]; exact hys)⟩
                        case measure => simp [intOf]; omega
                · obtain rfl : j = zs.length := by omega
                  have h1 : Hid (∀ y, y ∈ zs.take zs.length → y < toL (it (it xs k).ns m)) := Lib.hid (mem_take_lt hj hall.out)
                  have h2 : Hid (∀ y, y ∈ zs.drop zs.length → toL (it (it xs k).ns m) < y) := Lib.hid (fun y hy => by simp at hy)
                  have hsrc1 : Hid (∀ W : World, Below wo.heap.size wo W → 0 < zs.length → ∃ ad, (some ⟨g, 0, none⟩ : Option Addr) = some ad ∧ ∀ jj u, ((zs.map eS).take zs.length)[jj]? = some u → W.cell? (ad.add jj) = some u) := Lib.hid (fun W hW _ => ⟨_, rfl, fun jj u hu => own_cellsV (j := 0) (m := zs.length) HM.out.own (by omega) W hW jj u (by simpa using hu)⟩)
                  have hlen1 : ((zs.map eS).take zs.length).length = zs.length := by simp
                  have hlen2 : ((zs.map eS).drop zs.length).length = 0 := by simp
                  by_cases q5 : cap = zs.length
                  · have hsrc2 : Hid (∀ W : World, Below wo.heap.size wo W → 0 < 0 → ∃ ad, (some ⟨g, 0, none⟩ : Option Addr) = some ad ∧ ∀ jj u, ((zs.map eS).drop zs.length)[jj]? = some u → W.cell? (ad.add jj) = some u) := Lib.hid (fun W _ h => absurd h (by omega))
                    go_wp2
                    go_region_held3 (fun _ => True) (trivial) (first
                      | (refine step_append_src _ (by rfl) (.tmp 52) (.tmp 55) 23 (by rfl) wo.heap.size 9 i0 (.string ⟨#[]⟩) 16 Try.underlying23 HZ.out.1 HZ.out.2.1 HZ.out.2.2.1 HZ.out.2.2.2 rfl (.slice (some ⟨_, 0, none⟩) 0 0) 0 [] (by rfl) (by exact owns_emptyN _ _ _ _ _ (by first | (simp; done) | (simp; omega) | omega) (by first | exact heap_at_new _ _ _ (by simp; done) | exact heap_at_old _ _ _ _ (by first | (simp; done) | (simp; omega) | omega) (heap_at_new _ _ _ (by simp; done)))) _ _ _ ((zs.map eS).take zs.length) (by rfl) (by exact hlen1) (by exact fun h => hsrc1.out _ (by go_grown; all_goals omega) h) (take_one (eS_one _) _) (by unfold maxLen; omega) (by omega) (by first | (simp; done) | (simp; omega) | omega) ?_; intro v1 wa hown1 hgrow1 hat1; have HBa : Hid (Below wo.heap.size wo wa) := Lib.hid (Below.grown (by go_grown; all_goals omega) hgrow1 (by first | (simp; done) | (simp; omega) | omega) (by intro kk e; cases e; first | (simp; done) | (simp; omega))); have HOWN1 := Lib.hid hown1; have HGROW1 := Lib.hid hgrow1; clear hown1 hgrow1 hat1)
                      | (refine step_append_src _ (by rfl) (.tmp 56) (.tmp 58) 23 (by rfl) wo.heap.size 9 i0 (.string ⟨#[]⟩) 16 Try.underlying23 HZ.out.1 HZ.out.2.1 HZ.out.2.2.1 HZ.out.2.2.2 rfl v1 (0 + zs.length) _ (by rfl) (by first | exact HOWN1.out | exact HOWN1.out.alloc _) (some ⟨_, 0, none⟩) 1 1 [.string (it (it xs k).ns m)] (by rfl) rfl (fun _ => ⟨_, rfl, one_news (by first | (simp; done) | (rw [HGROW1.out.cell_far _ (by first | (simp; done) | (simp; omega) | omega) (by simp [Value.ownBlock]; done)]; simp; done))⟩) (str_one1 _) (by unfold maxLen; omega) (by omega) (by first | exact HBa.out.size | (have := HBa.out.size; simp; omega)) ?_; intro v2 wb hown2 hgrow2 hat2; have HBb : Hid (Below wo.heap.size wo wb) := Lib.hid (Below.grown (by first | exact HBa.out | exact HBa.out.alloc HBa.out.size _) hgrow2 (by first | exact HBa.out.size | (have := HBa.out.size; simp; omega)) (fun kk e => (HOWN1.out.lt kk e).1)); have HOWN2 := Lib.hid hown2; clear hown2 hgrow2 hat2)
                      | (refine step_append_src _ (by rfl) (.tmp 59) (.tmp 62) 23 (by rfl) wo.heap.size 9 i0 (.string ⟨#[]⟩) 16 Try.underlying23 HZ.out.1 HZ.out.2.1 HZ.out.2.2.1 HZ.out.2.2.2 rfl v2 (0 + zs.length + 1) _ (by rfl) HOWN2.out _ _ _ ((zs.map eS).drop zs.length) (by rfl) (by exact hlen2) (by exact fun h => hsrc2.out _ HBb.out h) (drop_one (eS_one _) _) (by unfold maxLen; omega) (by omega) HBb.out.size ?_; intro v3 w3 hown3 hgrow3 hat3; have HBc : Hid (Below wo.heap.size wo w3) := Lib.hid (Below.grown HBb.out hgrow3 HBb.out.size (fun kk e => (HOWN2.out.lt kk e).1)); have HOWN3 := Lib.hid hown3; clear hown3 hgrow3 hat3))
                    all_goals
                      go_wp2
                      go_roundw
                      case rel =>
                        obtain ⟨ys, hys⟩ := HM.out.put HBc.out HOWN3.out (by simp; first | done | omega) (by omega) h1.out h2.out
                        exact ⟨m + 1, ys, by omega, by go_num, Lib.hid (by rw [HNX.out, ← List.append_assoc]; exact hys)⟩
                      case measure => simp [intOf]; omega
                  · have hsrc2 : Hid (∀ W : World, Below wo.heap.size wo W → 0 < 0 → ∃ ad, (some ⟨g, zs.length, none⟩ : Option Addr) = some ad ∧ ∀ jj u, ((zs.map eS).drop zs.length)[jj]? = some u → W.cell? (ad.add jj) = some u) := Lib.hid (fun W _ h => absurd h (by omega))
                    go_wp2
                    go_region_held3 (fun _ => True) (trivial) (first
                      | (refine step_append_src _ (by rfl) (.tmp 52) (.tmp 55) 23 (by rfl) wo.heap.size 9 i0 (.string ⟨#[]⟩) 16 Try.underlying23 HZ.out.1 HZ.out.2.1 HZ.out.2.2.1 HZ.out.2.2.2 rfl (.slice (some ⟨_, 0, none⟩) 0 0) 0 [] (by rfl) (by exact owns_emptyN _ _ _ _ _ (by first | (simp; done) | (simp; omega) | omega) (by first | exact heap_at_new _ _ _ (by simp; done) | exact heap_at_old _ _ _ _ (by first | (simp; done) | (simp; omega) | omega) (heap_at_new _ _ _ (by simp; done)))) _ _ _ ((zs.map eS).take zs.length) (by rfl) (by exact hlen1) (by exact fun h => hsrc1.out _ (by go_grown; all_goals omega) h) (take_one (eS_one _) _) (by unfold maxLen; omega) (by omega) (by first | (simp; done) | (simp; omega) | omega) ?_; intro v1 wa hown1 hgrow1 hat1; have HBa : Hid (Below wo.heap.size wo wa) := Lib.hid (Below.grown (by go_grown; all_goals omega) hgrow1 (by first | (simp; done) | (simp; omega) | omega) (by intro kk e; cases e; first | (simp; done) | (simp; omega))); have HOWN1 := Lib.hid hown1; have HGROW1 := Lib.hid hgrow1; clear hown1 hgrow1 hat1)
                      | (refine step_append_src _ (by rfl) (.tmp 56) (.tmp 58) 23 (by rfl) wo.heap.size 9 i0 (.string ⟨#[]⟩) 16 Try.underlying23 HZ.out.1 HZ.out.2.1 HZ.out.2.2.1 HZ.out.2.2.2 rfl v1 (0 + zs.length) _ (by rfl) (by first | exact HOWN1.out | exact HOWN1.out.alloc _) (some ⟨_, 0, none⟩) 1 1 [.string (it (it xs k).ns m)] (by rfl) rfl (fun _ => ⟨_, rfl, one_news (by first | (simp; done) | (rw [HGROW1.out.cell_far _ (by first | (simp; done) | (simp; omega) | omega) (by simp [Value.ownBlock]; done)]; simp; done))⟩) (str_one1 _) (by unfold maxLen; omega) (by omega) (by first | exact HBa.out.size | (have := HBa.out.size; simp; omega)) ?_; intro v2 wb hown2 hgrow2 hat2; have HBb : Hid (Below wo.heap.size wo wb) := Lib.hid (Below.grown (by first | exact HBa.out | exact HBa.out.alloc HBa.out.size _) hgrow2 (by first | exact HBa.out.size | (have := HBa.out.size; simp; omega)) (fun kk e => (HOWN1.out.lt kk e).1)); have HOWN2 := Lib.hid hown2; clear hown2 hgrow2 hat2)
                      | (refine step_append_src _ (by rfl) (.tmp 59) (.tmp 62) 23 (by rfl) wo.heap.size 9 i0 (.string ⟨#[]⟩) 16 Try.underlying23 HZ.out.1 HZ.out.2.1 HZ.out.2.2.1 HZ.out.2.2.2 rfl v2 (0 + zs.length + 1) _ (by rfl) HOWN2.out _ _ _ ((zs.map eS).drop zs.length) (by rfl) (by exact hlen2) (by exact fun h => hsrc2.out _ HBb.out h) (drop_one (eS_one _) _) (by unfold maxLen; omega) (by omega) HBb.out.size ?_; intro v3 w3 hown3 hgrow3 hat3; have HBc : Hid (Below wo.heap.size wo w3) := Lib.hid (Below.grown HBb.out hgrow3 HBb.out.size (fun kk e => (HOWN2.out.lt kk e).1)); have HOWN3 := Lib.hid hown3; clear hown3 hgrow3 hat3))
                    all_goals
                      go_wp2
                      go_roundw
                      case rel =>
                        obtain ⟨ys, hys⟩ := HM.out.put HBc.out HOWN3.out (by simp; first | done | omega) (by omega) h1.out h2.out
                        exact ⟨m + 1, ys, by omega, by go_num, Lib.hid (by rw [HNX.out, ← List.append_assoc]; exact hys)⟩
                      case measure => simp [intOf]; omega
          · obtain rfl : m = (it xs k).ns.length := by omega
            go_wp2
            go_roundw
            case rel => exact ⟨k + 1, zs, by omega, by go_num, Lib.hid (by have := HM.out; rw [List.take_length] at this; exact this)⟩
            case measure => simp [intOf]; omega
      · obtain rfl : k = xs.length := by omega
        have HBW := Lib.hid hbw
        have hu := HN.out.uof.eq
        obtain ⟨R, d, g, hv, h1, h2⟩ := own_formS zs HN.out.own
        subst hv
        have hle := HN.out.below.size
        have H1 := Lib.hid h1
        have H2 := Lib.hid h2
        clear hbw h1 h2
        go_wp2
        go_returns
        have hz : (unq (allN xs)).map toB = zs.map toB := by rw [hu]; rfl
        rw [hz, List.length_map]
        exact ⟨⟨R, d, rfl, fun hp => by
          obtain ⟨g', o, e1, e2, e3, e4⟩ := H1.out hp
          obtain ⟨q1, q2⟩ := H2.out (by simpa using hp)
          exact ⟨g', o, e1, ⟨by rw [e2]; omega, by rw [e2]; exact q2⟩, e3, e4⟩⟩, HBW.out⟩
  · rw [pB_no hok] at HA ⊢
    rw [nmF_no hok]
    clear hok
    go_enter Try.func40, Try.ntmps40
    go_wp2_with fail
    refine HA.out.mono ?_
    rintro e w1 ⟨rfl, hb1⟩
    have HB1 := Lib.hid hb1
    clear hb1 HA
    go_wp2
    go_returns
    exact ⟨⟨none, 0, rfl, Owned.nil _ _ _⟩, HB1.out⟩
end Go.Proofs.Ytjnimmjlmfhpdaa
