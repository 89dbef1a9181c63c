/- NamesIn in the program. -/
import Derived.Test.YtjnimmjlmfhpdaaNamP
namespace Go.Proofs.Ytjnimmjlmfhpdaa
open Go.ChangeShapes Go.WideShapes Go.ChangeAt Go.RowKit Go.PlainAid
set_option linter.unusedVariables false

/-- The names of the first k items. -/
def namesTo (xs : List Im) : Nat → List Bs
  | 0 => []
  | k + 1 => namesTo xs k ++ (it xs k).ns.map toL
def allN (xs : List Im) : List Bs := namesTo xs xs.length
noncomputable def nmF (xs : List Im) : List ByteArray := @ite _ (ListOk xs) (Classical.propDecidable _) ((unq (allN xs)).map toB) []
theorem nmF_yes {xs : List Im} (h : ListOk xs) : nmF xs = (unq (allN xs)).map toB := by unfold nmF; rw [if_pos h]
theorem nmF_no {xs : List Im} (h : ¬ ListOk xs) : nmF xs = [] := by unfold nmF; rw [if_neg h]
theorem namesTo_same {xs ys : List Im} (h : SameS xs ys) : ∀ k, k ≤ xs.length → namesTo ys k = namesTo xs k
  | 0, _ => rfl
  | k + 1, hk => by rw [namesTo, namesTo, namesTo_same h k (by omega), (h.each k (by omega)).ns]
theorem nmF_same {xs ys : List Im} (h : SameS xs ys) : nmF ys = nmF xs := by
  by_cases k : ListOk xs
  · rw [nmF_yes k, nmF_yes (k.same h)]
    unfold allN
    rw [h.len, namesTo_same h _ (Nat.le_refl _)]
  · rw [nmF_no k, nmF_no (fun q => k (q.same h.symm))]
theorem namesTo_len (xs : List Im) (hl : ListOk xs) : ∀ k, k ≤ xs.length → k ≤ (namesTo xs k).length ∧ (namesTo xs k).length ≤ 3 * k
  | 0, _ => by simp [namesTo]
  | k + 1, hk => by
    have h1 := namesTo_len xs hl k (by omega)
    have h2 := (hl.each k (by omega)).hi
    have h3 := (hl.each k (by omega)).lo
    rw [namesTo, List.length_append, List.length_map]
    omega
theorem nmF_small (xs : List Im) : Short (nmF xs) := ⟨by
  by_cases k : ListOk xs
  · rw [nmF_yes k, List.length_map]
    have h1 := unq_len (allN xs)
    have h2 := (namesTo_len xs k xs.length (Nat.le_refl _)).2
    have h3 := k.len
    unfold allN at h1 ⊢
    omega
  · rw [nmF_no k]
    simp⟩

abbrev eS : Bs → Value := encStr
theorem eS_toL (b : ByteArray) : eS (toL b) = .string b := by
  show Value.string ⟨(toL b).toArray⟩ = _
  congr 1
/-- The head of a block holds some texts, and may be written. -/
def SRow (w : World) (g : Nat) (zs : List Bs) : Prop := Sort.Holds eS w g 0 zs.toArray
theorem SRow.own {w : World} {g : Nat} {zs : List Bs} (h : SRow w g zs) : OwnAt w g 0 (zs.map toB) := by
  have hi : ∀ i, i < zs.length → it (zs.map toB) i = toB (zs.toArray[i]!) := fun i hi => by
    unfold it
    rw [getElem!_pos _ i (by simpa using hi)]
    simp [hi]
  refine ⟨fun i hil j v hv => ?_, fun i j hil hj => ?_⟩
  · rw [List.length_map] at hil
    match j, hv with
    | 0, hv =>
      have e : Value.string (it (zs.map toB) i) = v := by injection hv
      rw [← e, hi i hil]
      have := (h i (by simpa using hil)).1
      rw [show 0 + i * Flat.sz ByteArray + 0 = 0 + i by show 0 + i * 1 + 0 = _; omega]
      exact this
  · rw [List.length_map] at hil
    have hj0 : j = 0 := by
      have : j < 1 := hj
      omega
    subst hj0
    rw [show 0 + i * Flat.sz ByteArray + 0 = 0 + i by show 0 + i * 1 + 0 = _; omega]
    exact (h i (by simpa using hil)).2
theorem SRow.of_own {w : World} {B g c : Nat} {e : TypeId} {zs : List Bs} (h : w.ownsRow B e 1 (.slice (some ⟨g, 0, none⟩) zs.length c) zs.length (zs.map eS)) : SRow w g zs := fun j hj => by
  have hj' : j < zs.length := by simpa using hj
  rw [Nat.zero_add]
  refine ⟨?_, h.frozenAt j⟩
  rw [h.cellAt j (by omega), getElem!_pos _ j hj]
  simp [hj']
theorem row_cap {w : World} {B g c n : Nat} {e : TypeId} {cs : List Value} (h : w.ownsRow B e 1 (.slice (some ⟨g, 0, none⟩) n c) n cs) : n ≤ c := by
  rcases h.2 with ⟨h, _⟩ | ⟨g', cap', cur, h, _, _, h', _⟩
  · cases h
  · cases h
    exact h'
theorem below_mapBlock {w : World} {g q : Nat} {d : Array Bs} : Below g w (Sort.putRow eS (Sort.ahead w q) g 0 d) := by
  refine ⟨rfl, rfl, rfl, by simp, fun k hk => ?_⟩
  unfold Sort.putRow Sort.mapBlock
  simp only [Array.getElem?_modify]
  rw [if_neg (by omega)]
  rfl
theorem sort_any (g c : Nat) (zs : List Bs) (w : World) (h : SRow w g zs) (hg : g < w.heap.size) (hl : zs.length ≤ 1048576) :
    Calls Try.prog 67 #[.slice (some ⟨g, 0, none⟩) zs.length c] w fun e w' => e = .returned (.tuple #[]) ∧ SRow w' g (srt zs) ∧ Below g w w' := by
  refine (Try.slices_Sort_string g 0 c zs w h hg (by omega)).mono ?_
  rintro e w' ⟨rfl, n, os, rfl⟩
  have hH : Sort.Holds eS (Sort.ahead w n) g 0 zs.toArray := h
  have h1 := Sort.holds_putRow eS (Sort.ahead w n) g 0 zs.toArray (srt zs).toArray hH (by simp [srt_len])
  have hg2 : g < (Sort.putRow eS (Sort.ahead w n) g 0 (srt zs).toArray).heap.size := by simpa using hg
  refine ⟨rfl, fun j hj => ?_, ?_⟩
  · have := h1 j hj
    exact ⟨(Sort.cell?_grow _ _ _ hg2).trans this.1, (Sort.frozen?_grow _ _ _ hg2).trans this.2⟩
  · refine (below_mapBlock (w := w) (g := g) (q := n) (d := (srt zs).toArray)).trans ⟨rfl, rfl, rfl, by simp, fun k hk => ?_⟩
    exact Sort.heap_grow_old _ _ (Nat.lt_trans hk hg2)
theorem compact_any (g c : Nat) (zs : List Bs) (w : World) (h : SRow w g zs) (hl : zs.length ≤ 1048576) (hc : zs.length ≤ c) :
    Calls Try.prog 68 #[.slice (some ⟨g, 0, none⟩) zs.length c] w fun e w' => e = .returned (.slice (some ⟨g, 0, none⟩) (Lib.compact zs).length c) ∧ SRow w' g (Lib.compact zs) ∧ Below g w w' := by
  refine (Try.slices_Compact_string g 0 c zs w h (by omega) hc).mono ?_
  rintro e w' ⟨rfl, q, rfl⟩
  have hle := Lib.compact_length_le zs
  have hH : Sort.Holds eS (Sort.ahead w q) g 0 zs.toArray := h
  have h1 := Sort.holds_putRow eS (Sort.ahead w q) g 0 zs.toArray (Lib.compact zs ++ List.replicate (zs.length - (Lib.compact zs).length) []).toArray hH (by simp; omega)
  refine ⟨rfl, fun j hj => ?_, below_mapBlock⟩
  have hj' : j < (Lib.compact zs).length := by simpa using hj
  have := h1 j (by simp; omega)
  rw [getElem!_pos _ j (by simp; omega)] at this
  rw [getElem!_pos _ j hj]
  simpa [List.getElem_append_left hj'] using this

theorem map_eS (l : List ByteArray) : (l.map toL).map eS = l.map Value.string := by
  rw [List.map_map]
  exact List.map_congr_left (fun b _ => eS_toL b)
set_option maxHeartbeats 2000000 in
theorem iNamesIn_any (P : Option Addr) (c : Nat) (xs : List Im) (w : World) (hr : Ims w w.heap.size P xs) (hl : ImsFits xs) :
    Calls Try.prog 41 #[.slice P xs.length c] w fun e w' => (∃ R d, e = .returned (.tuple #[.slice R (nmF xs).length d, .bool (pB (ListOk xs))]) ∧ Owned (fun i => w.heap.size ≤ i ∧ i < w'.heap.size) w' R (nmF xs)) ∧ Below w.heap.size w w' := by
  have HA := Lib.hid (iAreItems_any P c xs w hr hl)
  have HR := Lib.hid hr
  clear hr hl
  by_cases hok : ListOk xs
  · rw [pB_yes hok] at HA ⊢
    rw [nmF_yes hok]
    obtain ⟨i0, hi, hz0, hz1, hz2⟩ := info_parts Try.infoStr
    have HZ := Lib.hid (And.intro hi (And.intro hz0 (And.intro hz1 hz2)))
    have HK := Lib.hid hok
    have HLN := Lib.hid (namesTo_len xs hok)
    have h14 := hok.len
    clear hok hi hz0 hz1 hz2
    go_enter Try.func41, Try.ntmps41
    go_wp2_with fail
    refine HA.out.mono ?_
    rintro e w1 ⟨rfl, hb1⟩
    have HB1 := Lib.hid hb1
    have hs01 := hb1.size
    clear hb1 HA
    go_wp2_with fail
    go_loopw [4, 12] (fun v i wr => ∃ k : Nat, k ≤ xs.length ∧ i = .int .i64 k ∧ Below w1.heap.size w1 wr ∧ Hid (wr.ownsRow w1.heap.size 9 1 v (namesTo xs k).length ((namesTo xs k).map eS))) (fun _ i _ => xs.length - (intOf i).toNat)
    case atStart => exact ⟨0, Nat.zero_le _, rfl, Below.refl _ _, Lib.hid ⟨rfl, .inl ⟨rfl, rfl⟩⟩⟩
    case round =>
      obtain ⟨k, hk, rfl, hb, HO⟩ := hrel
      have hbw := below_next HB1.out hb
      by_cases hlt : k < xs.length
      · obtain ⟨b, o, rfl, hbl, hc⟩ := HR.out.out.im (by omega)
        obtain ⟨c0, c1, c2⟩ := (hc k hlt).below hbw hbl
        have HE := Lib.hid ((HR.out.each k hlt).below HB1.out (Nat.le_refl _))
        have hn3 := (HK.out.each k hlt).hi
        have hln := (HLN.out k hk).2
        have HB := Lib.hid hb
        have hbs := hb.size
        have HNX := Lib.hid (show (namesTo xs (k + 1)).map eS = (namesTo xs k).map eS ++ (it xs k).ns.map Value.string from by rw [namesTo, List.map_append, map_eS])
        have HNL := Lib.hid (show (namesTo xs (k + 1)).length = (namesTo xs k).length + (it xs k).ns.length from by rw [namesTo, List.length_append, List.length_map])
        clear hc hb hbw
        go_wp2_with (at_builtin; refine wpList_append_src _ rfl (.tmp 16) (.tmp 18) 23 rfl w1.heap.size 9 i0 (.string ⟨#[]⟩) 16 Try.underlying23 HZ.out.1 HZ.out.2.1 HZ.out.2.2.1 HZ.out.2.2.2 rfl _ (namesTo xs k).length ((namesTo xs k).map eS) rfl (HO.out.alloc _) (it xs k).A (it xs k).ns.length (it xs k).c ((it xs k).ns.map Value.string) rfl (by simp) (str_src HE.out.ns ((HB.out.mono hs01).trans ((below_alloc _ _).mono (by omega)))) (str_one _) (by unfold maxLen; omega) (by omega) (by simp; omega) ?_; intro v1 w4 hown hgrow hat)
        have hb4 : Below w1.heap.size w1 w4 := Below.grown (below_next HB.out (below_alloc _ _)) hgrow (by simp; omega) (fun m e => (HO.out.lt m e).1)
        have HOWN := Lib.hid (show w4.ownsRow w1.heap.size 9 1 v1 (namesTo xs (k + 1)).length ((namesTo xs (k + 1)).map eS) from by rw [HNX.out, HNL.out]; exact hown)
        clear hown hgrow hat
        go_roundw
        case rel => exact ⟨k + 1, by omega, by go_num, hb4, HOWN⟩
        case measure => simp [intOf]; omega
      · obtain rfl : k = xs.length := by omega
        have hln := HLN.out xs.length (Nat.le_refl _)
        have HBW := Lib.hid hbw
        have hbs := hb.size
        have HO' := Lib.hid (show wr.ownsRow w1.heap.size 9 1 u4 (allN xs).length ((allN xs).map eS) from HO.out)
        have hla : (allN xs).length ≤ 3 * xs.length := hln.2
        clear hb hbw hln HO
        rcases Nat.eq_zero_or_pos (allN xs).length with h0 | h0
        · obtain ⟨p, cap, rfl⟩ : ∃ p cap, u4 = .slice p 0 cap := by
            rcases HO'.out.2 with ⟨h, _⟩ | ⟨g, cap, _, h, _⟩
            · exact ⟨none, 0, h⟩
            · exact ⟨_, cap, by rw [h, h0]⟩
          have hnil : allN xs = [] := List.eq_nil_of_length_eq_zero h0
          go_wp2_with fail
          refine (Try.slices_Sort_string_none p cap wr).mono ?_
          rintro e w5 ⟨rfl, hw5⟩
          subst hw5
          go_wp2_with fail
          refine (Try.slices_Compact_string_empty p cap _).mono ?_
          rintro e w6 ⟨rfl, hw6⟩
          subst hw6
          go_wp2
          go_returns
          rw [hnil, show unq [] = [] from List.eq_nil_of_length_eq_zero (Nat.le_zero.1 (unq_len []))]
          exact ⟨⟨p, cap, rfl, Owned.nil _ _ _⟩, HBW.out⟩
        · obtain ⟨g, cap, rfl, hg1, hg2⟩ := row_pos HO'.out h0
          have HSR := Lib.hid (SRow.of_own HO'.out)
          have hcap := row_cap HO'.out
          go_wp2_with fail
          refine (sort_any g cap (allN xs) wr HSR.out hg2 (by omega)).mono ?_
          rintro e w5 ⟨rfl, hsr, hb5⟩
          have HS5 := Lib.hid hsr
          have HB5 := Lib.hid hb5
          have hs5 := hb5.size
          clear hsr hb5
          go_wp2_with fail
          have hcm := compact_any g cap (srt (allN xs)) w5 HS5.out (by rw [srt_len]; omega) (by rw [srt_len]; omega)
          rw [srt_len] at hcm
          refine hcm.mono ?_
          rintro e w6 ⟨rfl, hsr, hb6⟩
          have HS6 := Lib.hid hsr
          have HB6 := Lib.hid (HBW.out.trans (((HB5.out).trans hb6).mono (by omega)))
          have hs6 := hb6.size
          clear hsr hb6 hcm
          go_wp2
          go_returns
          rw [List.length_map]
          exact ⟨⟨_, cap, rfl, fun _ => ⟨g, 0, rfl, ⟨by omega, by omega⟩, by omega, HS6.out.own⟩⟩, HB6.out⟩
  · rw [pB_no hok] at HA ⊢
    rw [nmF_no hok]
    clear hok
    go_enter Try.func41, Try.ntmps41
    go_wp2_with fail
    refine HA.out.mono ?_
    rintro e w1 ⟨rfl, hb1⟩
    have HB1 := Lib.hid hb1
    clear hb1 HA
    go_wp2
    go_returns
    exact ⟨⟨none, 0, rfl, Owned.nil _ _ _⟩, HB1.out⟩
end Go.Proofs.Ytjnimmjlmfhpdaa
