/- A code with one element more, in the model. -/
import Derived.Test.YtmncigeelfappaaDoorCdZ
import Derived.Deep.CutBlock
import Derived.Deep.DeepCutAuto
namespace Go.Proofs.YtmncigeelfappaaDoor
open Go.ChangeShapes Go.WideShapes Go.ChangeAt Go.RowKit Go.PlainAid Go.Sort
set_option linter.unusedVariables false

theorem keepBE {w : World} {b b' : Nat} {A L : Option Addr} {c d : Nat} {x : Cd} {y : El} (h : BoxAt w b A c L d x) (e : ElB w b' y) :
    w.cell? ⟨b, 0, none⟩ = some (.slice A x.els.length c) ∧ w.cell? ⟨b', 0, none⟩ = some (.string y.name) ∧ w.cell? ⟨b', 1, none⟩ = some (.int .i64 y.fam) ∧ w.cell? ⟨b', 2, none⟩ = some (.int .i64 y.lev) ∧ w.cell? ⟨b', 3, none⟩ = some (.int .i64 y.base) := by
  obtain ⟨e0, e1, e2, e3⟩ := e.at_
  simp only [Nat.zero_add] at e1 e2 e3
  exact ⟨h.box.c0, e0, e1, e2, e3⟩
theorem keepSet {w : World} {b b' : Nat} {v0 v1 v2 v3 v4 : Value} (g : Nat) (u : Value) (hne : ((⟨g, 0, none⟩ : Addr)).block ≠ ((⟨b, 0, none⟩ : Addr)).block ∧ ((⟨g, 0, none⟩ : Addr)).block ≠ ((⟨b', 0, none⟩ : Addr)).block)
    (h : w.cell? ⟨b, 0, none⟩ = some v0 ∧ w.cell? ⟨b', 0, none⟩ = some v1 ∧ w.cell? ⟨b', 1, none⟩ = some v2 ∧ w.cell? ⟨b', 2, none⟩ = some v3 ∧ w.cell? ⟨b', 3, none⟩ = some v4) :
    (w.setCell ⟨g, 0, none⟩ u).cell? ⟨b, 0, none⟩ = some v0 ∧ (w.setCell ⟨g, 0, none⟩ u).cell? ⟨b', 0, none⟩ = some v1 ∧ (w.setCell ⟨g, 0, none⟩ u).cell? ⟨b', 1, none⟩ = some v2 ∧ (w.setCell ⟨g, 0, none⟩ u).cell? ⟨b', 2, none⟩ = some v3 ∧ (w.setCell ⟨g, 0, none⟩ u).cell? ⟨b', 3, none⟩ = some v4 :=
  ⟨(World.cell?_setCell_far w ⟨g, 0, none⟩ ⟨b, 0, none⟩ u hne.1).trans h.1, (World.cell?_setCell_far w ⟨g, 0, none⟩ ⟨b', 0, none⟩ u hne.2).trans h.2.1, (World.cell?_setCell_far w ⟨g, 0, none⟩ ⟨b', 1, none⟩ u hne.2).trans h.2.2.1, (World.cell?_setCell_far w ⟨g, 0, none⟩ ⟨b', 2, none⟩ u hne.2).trans h.2.2.2.1, (World.cell?_setCell_far w ⟨g, 0, none⟩ ⟨b', 3, none⟩ u hne.2).trans h.2.2.2.2⟩
theorem below_ad2 (w : World) (o p : Obj) : Below w.heap.size w ((w.alloc o).alloc p).drew := (below_alloc w o).trans ((below_adn (w.alloc o) p).mono (by simp))
theorem heap_at_two (w : World) (o p : Obj) : ((w.alloc o).alloc p).drew.heap[w.heap.size]? = some o :=
  ((below_adn (w.alloc o) p).block w.heap.size (by simp)).trans (heap_alloc_new w o)
theorem src_two (w : World) (o : Obj) (y : El) {t : TypeId} (w' : World) (hg : ((w.alloc o).alloc (.cells #[.string y.name, .int .i64 y.fam, .int .i64 y.lev, .int .i64 y.base] t)).drew.grownBy w' (some w.heap.size)) : 0 < 1 → ∃ ad, (some ⟨w.heap.size + 1, 0, none⟩ : Option Addr) = some ad ∧ ∀ j u, ([y].flatMap (Flat.cells (α := El)))[j]? = some u → w'.cell? (ad.add j) = some u := fun _ => ⟨_, rfl, fun j u hj => by
  have hj' : (Flat.cells y)[j]? = some u := by simpa using hj
  have hb : w'.heap[w.heap.size + 1]? = ((w.alloc o).alloc (.cells #[.string y.name, .int .i64 y.fam, .int .i64 y.lev, .int .i64 y.base] t)).heap[w.heap.size + 1]? := hg.block (w.heap.size + 1) (by simp) (fun e => by have := Option.some.inj e; omega)
  rw [add_off, World.cell?_of_block (a := ⟨w.heap.size + 1, 0 + j, none⟩) hb]
  have he := elB_new (w.alloc o) y t
  rw [show (w.alloc o).heap.size = w.heap.size + 1 by simp] at he
  obtain ⟨c0, c1, c2, c3⟩ := he.at_
  match j, hj' with
  | 0, hc => rw [← hc]; exact c0
  | 1, hc => rw [← hc]; exact c1
  | 2, hc => rw [← hc]; exact c2
  | 3, hc => rw [← hc]; exact c3
  | j + 4, hc => cases hc⟩
theorem heap_at_sec (w : World) (o p : Obj) : ((w.alloc o).alloc p).drew.heap[w.heap.size + 1]? = some p := by
  have := heap_alloc_new (w.alloc o) p
  rwa [show (w.alloc o).heap.size = w.heap.size + 1 by simp] at this
theorem src_one (w : World) (o : Obj) (y : El) {t : TypeId} (w' : World) (hg : ((w.alloc (.cells #[.string y.name, .int .i64 y.fam, .int .i64 y.lev, .int .i64 y.base] t)).alloc o).drew.grownBy w' (some (w.heap.size + 1))) : 0 < 1 → ∃ ad, (some ⟨w.heap.size, 0, none⟩ : Option Addr) = some ad ∧ ∀ j u, ([y].flatMap (Flat.cells (α := El)))[j]? = some u → w'.cell? (ad.add j) = some u := fun _ => ⟨_, rfl, fun j u hj => by
  have hj' : (Flat.cells y)[j]? = some u := by simpa using hj
  have hb : w'.heap[w.heap.size]? = (w.alloc (.cells #[.string y.name, .int .i64 y.fam, .int .i64 y.lev, .int .i64 y.base] t)).heap[w.heap.size]? := (hg.block w.heap.size (by simp; omega) (fun e => by have := Option.some.inj e; omega)).trans ((below_adn (w.alloc (.cells #[.string y.name, .int .i64 y.fam, .int .i64 y.lev, .int .i64 y.base] t)) o).block w.heap.size (by simp))
  rw [add_off, World.cell?_of_block (a := ⟨w.heap.size, 0 + j, none⟩) hb]
  obtain ⟨c0, c1, c2, c3⟩ := (elB_new w y t).at_
  match j, hj' with
  | 0, hc => rw [← hc]; exact c0
  | 1, hc => rw [← hc]; exact c1
  | 2, hc => rw [← hc]; exact c2
  | 3, hc => rw [← hc]; exact c3
  | j + 4, hc => cases hc⟩
theorem src_new (w : World) (y : El) (t : TypeId) : 0 < 1 → ∃ ad, (some ⟨w.heap.size, 0, none⟩ : Option Addr) = some ad ∧ ∀ j u, ([y].flatMap (Flat.cells (α := El)))[j]? = some u → (w.alloc (.cells #[.string y.name, .int .i64 y.fam, .int .i64 y.lev, .int .i64 y.base] t)).cell? (ad.add j) = some u := fun _ => ⟨_, rfl, fun j u hj => by
  have hj' : (Flat.cells y)[j]? = some u := by simpa using hj
  obtain ⟨c0, c1, c2, c3⟩ := (elB_new w y t).at_
  rw [add_off]
  match j, hj' with
  | 0, hc => rw [← hc]; exact c0
  | 1, hc => rw [← hc]; exact c1
  | 2, hc => rw [← hc]; exact c2
  | 3, hc => rw [← hc]; exact c3
  | j + 4, hc => cases hc⟩
theorem row_next {w w' : World} {B sz n : Nat} {e : TypeId} {v : Value} {xs : List Value} (h : w.ownsRow B e sz v n xs) (hb : Below w.heap.size w w') : w'.ownsRow B e sz v n xs := by
  rcases h.2 with ⟨rfl, rfl⟩ | ⟨g, cap, cur, rfl, _⟩
  · exact ⟨h.1, .inl ⟨rfl, rfl⟩⟩
  · exact ownsRow_block h (hb.block g (h.lt g rfl).2)
theorem ins_cells (xs : List El) (i : Nat) (y : El) : (xs.take i).flatMap Flat.cells ++ [y].flatMap Flat.cells ++ (xs.drop i).flatMap Flat.cells = (insEl xs i y).flatMap (Flat.cells (α := El)) := by
  rw [insEl_cells, List.append_assoc]
  simp

set_option maxHeartbeats 4000000 in
theorem sAdd_any (A L : Option Addr) (c d : Nat) (x : Cd) (y : El) (r : Nat) (w : World) (hr : CdAt w A L x) (hl : CdFits x) (hy : y.name.size ≤ 1048576) (hi : InsP x.els y.name r) (hc : x.els.length ≤ c ∧ c ≤ 9223372036854775807) :
    Calls Tryd.prog 30 #[x.val A c L d, y.val] w (CodeAns w (adR x y r) (AdOk x y r)) := by
  have HR := Lib.hid hr
  have HL := Lib.hid hl
  have HIN := Lib.hid hi
  have HY := Lib.hid hy
  have HC := Lib.hid hc
  obtain ⟨i0, hi, hz0, hz1, hz2⟩ := info_parts Tryd.infoEl
  have HZ := Lib.hid (And.intro hi (And.intro hz0 (And.intro hz1 hz2)))
  clear hr hl hy hc hi hz0 hz1 hz2
  unfold Cd.val
  go_enter Tryd.func30, Tryd.ntmps30
  go_wp2_with fail
  generalize hW : World.alloc (World.alloc (World.alloc w _) _) _ = W
  have hB : Below w.heap.size w W := by
    rw [← hW]
    go_grown
  have hS : W.heap.size = w.heap.size + 3 := by rw [← hW]; simp
  have hX : BoxAt W w.heap.size A c L d x := ⟨by omega, by
    rw [← hW]
    exact ((cdBox_new w _ _ rfl A c L d x).below ((Below.refl _ _).alloc (Nat.le_refl _) _) (by simp)).below ((Below.refl _ _).alloc (Nat.le_refl _) _) (by simp; omega)⟩
  have hE : ElB W (w.heap.size + 1) y := by
    rw [← hW]
    exact elB_new' _ y _ _ (by simp)
  have hM : CdMem W (w.heap.size + 1 + 1) (.slice none 0 0) (.slice none 0 0) (.int .i64 0) (.int .i64 0) (.int .i64 0) (.int .i64 0) := by
    rw [← hW]
    exact cdMem_new _ _ _ (by simp) _ _ _ _ _ _
  clear hW
  refine (cdGood_any A L c d x W (HR.out.below hB) HL.out).mono ?_
  rintro e w2 ⟨he, hb⟩
  have HM2 := Lib.hid (hM.below hb (by omega))
  have HX2 := Lib.hid (hX.next hb)
  have HE2 := Lib.hid (hE.next hb)
  have HR2 := Lib.hid ((HR.out.below hB).below hb)
  have HB2 := Lib.hid (Below_next hB hb)
  have HS2 := Lib.hid (show w.heap.size + 3 ≤ w2.heap.size by rw [← hS]; exact hb.size)
  clear hB hb hX hM hS hE
  by_cases hok : CdOk x
  · rw [pB_yes hok] at he
    subst he
    have HOK := Lib.hid hok
    clear hok
    have h1 := HOK.out.els.lo
    have h24 := HOK.out.els.hi
    have hrl := HIN.out.le
    obtain ⟨x0, x1, x2, x3, x4, x5⟩ := HX2.out.box
    go_wp2_with fail
    clear x0 x1 x2 x3 x4 x5
    refine (sOwn_any A L c d x w2 HR2.out HOK.out).mono ?_
    rintro e w4 ⟨g1, c1, g2, c2, rfl, hn, hb⟩
    obtain ⟨b, o, rfl, hbl, hcs⟩ := HR2.out.els.el' (by omega)
    obtain ⟨w5, hW, hB5⟩ := boxed 30 w4 (some ⟨g1, 0, none⟩) c1 (some ⟨g2, 0, none⟩) c2 x
    have hb5 := Below_next hb hB5.below
    have HM5 := Lib.hid (HM2.out.below hb5 (Nat.lt_of_lt_of_le (by omega) HS2.out))
    have HX5 := Lib.hid (HX2.out.next hb5)
    have HE5 := Lib.hid (HE2.out.next hb5)
    have HR5 := Lib.hid (HR2.out.below hb5)
    have HB5 := Lib.hid (Below_next HB2.out hb5)
    unfold boxCd at hW
    have hYm : CdMem w5 w4.heap.size (.slice (some ⟨g1, 0, none⟩) x.els.length c1) (.slice (some ⟨g2, 0, none⟩) x.lims.length c2) (.int .i64 x.rep) (.int .i64 x.bon) (.int .i64 x.kee) (.int .i64 x.fal) := by rw [hW]; exact cdMem_new w4 _ _ rfl _ _ _ _ _ _
    have HY5 := Lib.hid hYm
    have HI5 := Lib.hid (hn.lims.next hn.lt2 hB5.below)
    have HS5 := Lib.hid (show w2.heap.size ≤ g2 ∧ g2 < w4.heap.size ∧ w5.heap.size = w4.heap.size + 1 ∧ w.heap.size + 3 ≤ w2.heap.size from ⟨hn.le2, hn.lt2, hB5.size, HS2.out⟩)
    have HC5 := Lib.hid (show ∀ k, k < x.els.length → ElAt w5 b (o + k * 4) (it x.els k) from fun k hk => elAt ((hcs k hk).below hb5 hbl))
    clear hb hn hB5 hb5 hYm hcs
    obtain ⟨x0, x1, x2, x3, x4, x5⟩ := HX5.out.box
    obtain ⟨e0, e1, e2, e3⟩ := HE5.out.at_
    go_upto_block 0 with fail
    rw [← hW]
    clear hW
    go_cut [7] (fun s7 wx => s7 = .int .i64 r ∧ Hid (Below w5.heap.size w5 wx))
    case first =>
      go_wp2_with fail
      go_loopw [7] (fun i wr => ∃ k nn : Nat, k ≤ r ∧ i = .int .i64 k ∧ wr = w5.drewN nn) (fun i _ => x.els.length - (intOf i).toNat)
      case atStart => exact ⟨0, 0, Nat.zero_le _, rfl, rfl⟩
      case round =>
        obtain ⟨k, nn, hk, rfl, rfl⟩ := hrel
        by_cases hlt : k < x.els.length
        · obtain ⟨c0, _, _, _⟩ := HC5.out k hlt
          have k0 : (0 : Int) ≤ (k : Int) := by omega
          have k1 : (k : Int) < (x.els.length : Int) := by omega
          rcases hn : nlt (it x.els k).name y.name with _ | _
          · obtain rfl := (HIN.out.hit hk hn).symm
            unfold nlt at hn
            go_wp2
            go_quiet (fail)
            go_wp2
            go_meet
            exact ⟨rfl, Lib.hid (by rw [World.drewN_drewN]; exact below_drewN' _ _)⟩
          · have HI := Lib.hid (HIN.out.go hk hlt hn)
            unfold nlt at hn
            go_wp2
            go_quiet (fail)
            go_wp2
            go_roundw
            case rel => exact ⟨k + 1, _, HI.out, by go_num, rfl⟩
            case measure => simp [intOf]; omega
        · obtain rfl : r = k := by omega
          have kx : ¬ ((r : Int) < (x.els.length : Int)) := by omega
          have kd : decide ((r : Int) < (x.els.length : Int)) = false := by simp [kx]
          go_wp2
          go_quiet (fail)
          go_wp2
          go_meet
          exact ⟨rfl, Lib.hid (by rw [World.drewN_drewN]; exact below_drewN' _ _)⟩
    case rest =>
      obtain ⟨rfl, HW6⟩ := hcut
      have hb6 := HW6.out
      clear HW6
      obtain ⟨w6, hw6⟩ : ∃ w6, w6 = wc := ⟨wc, rfl⟩
      subst hw6
      have HM6 := Lib.hid (HM5.out.below hb6 (by have := HS5.out; omega))
      have HX6 := Lib.hid (HX5.out.next hb6)
      have HE6 := Lib.hid (HE5.out.next hb6)
      have HR6 := Lib.hid (HR5.out.below hb6)
      have HB6 := Lib.hid (Below_next HB5.out hb6)
      have HY6 := Lib.hid (HY5.out.below hb6 (by have := HS5.out; omega))
      have HI6 := Lib.hid (HI5.out.next (by have := HS5.out; omega) hb6)
      have HS6 := Lib.hid (show w2.heap.size ≤ g2 ∧ g2 < w4.heap.size ∧ w4.heap.size < w6.heap.size ∧ w.heap.size + 3 ≤ w2.heap.size by have := HS5.out; have := hb6.size; omega)
      clear hb6
      go_upto_region 7 with fail
      go_cut [] (fun wx => ∃ g7 c7, (w6.heap.size ≤ g7 ∧ g7 < wx.heap.size) ∧ Hid (CdMem wx w4.heap.size (.slice (some ⟨g7, 0, none⟩) (x.els.length + 1) c7) (.slice (some ⟨g2, 0, none⟩) x.lims.length c2) (.int .i64 x.rep) (.int .i64 x.bon) (.int .i64 x.kee) (.int .i64 x.fal)) ∧ Hid (CdMem wx (w.heap.size + 1 + 1) (.slice none 0 0) (.slice none 0 0) (.int .i64 0) (.int .i64 0) (.int .i64 0) (.int .i64 0)) ∧ Hid (OwnAt wx g7 0 (insEl x.els r y)) ∧ Hid (OwnAt wx g2 0 x.lims) ∧ Hid (Below w.heap.size w wx) ∧ w6.heap.size ≤ wx.heap.size)
      case first =>
        have HPRE1 := Lib.hid trivial
        have HKd := Lib.hid (keepBE (HX6.out.next (below_drewn w6)) (HE6.out.next (below_drewn w6)))
        have HKa := Lib.hid (fun ob => keepBE (HX6.out.next (below_adn w6 ob)) (HE6.out.next (below_adn w6 ob)))
        have HKaa := Lib.hid (fun ob oc => keepBE (HX6.out.next (below_ad2 w6 ob oc)) (HE6.out.next (below_ad2 w6 ob oc)))
        have HNE := Lib.hid (show ((⟨w4.heap.size, 0, none⟩ : Addr)).block ≠ ((⟨w.heap.size, 0, none⟩ : Addr)).block ∧ ((⟨w4.heap.size, 0, none⟩ : Addr)).block ≠ ((⟨w.heap.size + 1, 0, none⟩ : Addr)).block by have := HS6.out; simp only; omega)
        obtain ⟨d', hd'⟩ : ∃ d', x.els.length = r + d' := ⟨x.els.length - r, by omega⟩
        have HD := Lib.hid hd'
        have hc2 := HC.out
        have q0 : (0 : Int) ≤ (r : Int) := by omega
        have q1 : (r : Int) ≤ (c : Int) := by omega
        have q3 : (r : Int) ≤ (x.els.length : Int) := by omega
        have q4 : (x.els.length : Int) ≤ (c : Int) := by omega
        have q7 : x.els.length - r = d' := by omega
        have hd24 : d' ≤ 24 := by omega
        have HCNT := Lib.hid (show r + 1 + d' = x.els.length + 1 by omega)
        clear hd' hc2
        by_cases hcap : c = r
        · have HD0 := Lib.hid (show d' = 0 by have := HD.out; have := HC.out; omega)
          obtain rfl := hcap.symm
          go_region_held3 (fun w' => w'.cell? ⟨w.heap.size, 0, none⟩ = some (.slice (some ⟨b, o, none⟩) x.els.length r) ∧ w'.cell? ⟨w.heap.size + 1, 0, none⟩ = some (.string y.name) ∧ w'.cell? ⟨w.heap.size + 1, 1, none⟩ = some (.int .i64 y.fam) ∧ w'.cell? ⟨w.heap.size + 1, 2, none⟩ = some (.int .i64 y.lev) ∧ w'.cell? ⟨w.heap.size + 1, 3, none⟩ = some (.int .i64 y.base))
            (first | (with_reducible exact HKd.out) | (with_reducible exact HKa.out _) | (with_reducible exact HKaa.out _ _) | (with_reducible exact HKA.out) | (with_reducible exact HKA1.out _) | (with_reducible exact HKB.out) | (with_reducible exact HKC.out) | (with_reducible exact HKCs.out _) | fail)
            (first
              | (have hpre := HPRE1; clear hpre HPRE1; refine step_append_srcN _ (by rfl) (.tmp 32) (.tmp 36) 28 (by rfl) w6.heap.size 49 i0 (.agg #[.string ⟨#[]⟩, .int .i64 0, .int .i64 0, .int .i64 0]) 4 40 (by decide) Tryd.underlying28 HZ.out.1 HZ.out.2.1 HZ.out.2.2.1 HZ.out.2.2.2 rfl (.slice (some ⟨w6.heap.size, 0, none⟩) 0 0) 0 [] (by rfl) (owns_emptyN _ _ _ _ _ (by omega) (heap_at_new w6 _ _ rfl)) (some ⟨b, o, none⟩) r _ ((x.els.take r).flatMap Flat.cells) (by rfl) (by rw [flat_len, List.length_take, Nat.min_eq_left (by omega)]; rfl) (take_src HR6.out.els (below_adn w6 _) r r (by omega) rfl) (el_one _) (by unfold maxLen; omega) (by omega) (below_adn w6 _).size ?_; intro va wa howna hgrowa hata; rw [Nat.zero_add, List.nil_append] at howna; have hba := Below.grown (below_adn w6 _) hgrowa (below_adn w6 _).size (fun kk e => by simp [Value.ownBlock] at e; omega); have HFR := Lib.hid trivial; have HKA := Lib.hid (keepBE (HX6.out.next hba) (HE6.out.next hba)); have HKA1 := Lib.hid (fun ob => keepBE (HX6.out.next (Below_next hba (below_alloc wa ob))) (HE6.out.next (Below_next hba (below_alloc wa ob)))); have HOa := Lib.hid howna; have HATa := Lib.hid (own_from (B := w6.heap.size) hata (fun k e => by simp [Value.ownBlock] at e; omega) (below_adn w6 _).size); have HBa := Lib.hid hba; have HPRE2 := Lib.hid trivial; clear howna hgrowa hata hba)
              | (have hpre := HPRE1; clear hpre HPRE1; refine step_append_srcN _ (by rfl) (.tmp 32) (.tmp 36) 28 (by rfl) w6.heap.size 49 i0 (.agg #[.string ⟨#[]⟩, .int .i64 0, .int .i64 0, .int .i64 0]) 4 40 (by decide) Tryd.underlying28 HZ.out.1 HZ.out.2.1 HZ.out.2.2.1 HZ.out.2.2.2 rfl (.slice (some ⟨w6.heap.size, 0, none⟩) 0 0) 0 [] (by rfl) (owns_emptyN _ _ _ _ _ (by omega) (heap_at_two w6 _ _)) (some ⟨b, o, none⟩) r _ ((x.els.take r).flatMap Flat.cells) (by rfl) (by rw [flat_len, List.length_take, Nat.min_eq_left (by omega)]; rfl) (take_src HR6.out.els (below_ad2 w6 _ _) r r (by omega) rfl) (el_one _) (by unfold maxLen; omega) (by omega) (below_ad2 w6 _ _).size ?_; intro va wa howna hgrowa hata; rw [Nat.zero_add, List.nil_append] at howna; have hba := Below.grown (below_ad2 w6 _ _) hgrowa (below_ad2 w6 _ _).size (fun kk e => by simp [Value.ownBlock] at e; omega); have HSRC := Lib.hid (src_two w6 _ y wa hgrowa); have HKA := Lib.hid (keepBE (HX6.out.next hba) (HE6.out.next hba)); have HKA1 := Lib.hid (fun ob => keepBE (HX6.out.next (Below_next hba (below_alloc wa ob))) (HE6.out.next (Below_next hba (below_alloc wa ob)))); have HOa := Lib.hid howna; have HATa := Lib.hid (own_from (B := w6.heap.size) hata (fun k e => by simp [Value.ownBlock] at e; omega) (below_ad2 w6 _ _).size); have HBa := Lib.hid hba; have HPRE2 := Lib.hid trivial; clear howna hgrowa hata hba)
              | (have hpre := HPRE1; clear hpre HPRE1; refine step_append_srcN _ (by rfl) (.tmp 32) (.tmp 36) 28 (by rfl) w6.heap.size 49 i0 (.agg #[.string ⟨#[]⟩, .int .i64 0, .int .i64 0, .int .i64 0]) 4 40 (by decide) Tryd.underlying28 HZ.out.1 HZ.out.2.1 HZ.out.2.2.1 HZ.out.2.2.2 rfl (.slice (some ⟨w6.heap.size + 1, 0, none⟩) 0 0) 0 [] (by rfl) (owns_emptyN _ _ _ _ _ (by omega) (heap_at_sec w6 _ _)) (some ⟨b, o, none⟩) r _ ((x.els.take r).flatMap Flat.cells) (by rfl) (by rw [flat_len, List.length_take, Nat.min_eq_left (by omega)]; rfl) (take_src HR6.out.els (below_ad2 w6 _ _) r r (by omega) rfl) (el_one _) (by unfold maxLen; omega) (by omega) (below_ad2 w6 _ _).size ?_; intro va wa howna hgrowa hata; rw [Nat.zero_add, List.nil_append] at howna; have hba := Below.grown (below_ad2 w6 _ _) hgrowa (below_ad2 w6 _ _).size (fun kk e => by simp [Value.ownBlock] at e; omega); have HSRC := Lib.hid (src_one w6 _ y wa hgrowa); have HKA := Lib.hid (keepBE (HX6.out.next hba) (HE6.out.next hba)); have HKA1 := Lib.hid (fun ob => keepBE (HX6.out.next (Below_next hba (below_alloc wa ob))) (HE6.out.next (Below_next hba (below_alloc wa ob)))); have HOa := Lib.hid howna; have HATa := Lib.hid (own_from (B := w6.heap.size) hata (fun k e => by simp [Value.ownBlock] at e; omega) (below_ad2 w6 _ _).size); have HBa := Lib.hid hba; have HPRE2 := Lib.hid trivial; clear howna hgrowa hata hba)
              | (have hpre := HPRE2; have hfr := HFR; clear hfr HFR; clear hpre HPRE2; refine step_append_srcN _ (by rfl) (.tmp 37) (.tmp 39) 28 (by rfl) w6.heap.size 49 i0 (.agg #[.string ⟨#[]⟩, .int .i64 0, .int .i64 0, .int .i64 0]) 4 40 (by decide) Tryd.underlying28 HZ.out.1 HZ.out.2.1 HZ.out.2.2.1 HZ.out.2.2.2 rfl va r _ (by rfl) (row_next HOa.out (below_alloc wa _)) (some ⟨wa.heap.size, 0, none⟩) 1 1 ([y].flatMap Flat.cells) (by rfl) (flat_len [y]) (src_new wa y _) (el_one _) (by unfold maxLen; omega) (by omega) (Below_next HBa.out (below_alloc wa (Obj.cells #[.string y.name, .int .i64 y.fam, .int .i64 y.lev, .int .i64 y.base] 49))).size ?_; intro vb wb hownb hgrowb hatb; have hbb := Below.grown (Below_next HBa.out (below_alloc wa (Obj.cells #[.string y.name, .int .i64 y.fam, .int .i64 y.lev, .int .i64 y.base] 49))) hgrowb (Below_next HBa.out (below_alloc wa (Obj.cells #[.string y.name, .int .i64 y.fam, .int .i64 y.lev, .int .i64 y.base] 49))).size HATa.out; have HKB := Lib.hid (keepBE (HX6.out.next hbb) (HE6.out.next hbb)); have HRb := Lib.hid (HR6.out.below hbb); have HOb := Lib.hid hownb; have HATb := Lib.hid (own_from (B := w6.heap.size) hatb HATa.out (Below_next HBa.out (below_alloc wa (Obj.cells #[.string y.name, .int .i64 y.fam, .int .i64 y.lev, .int .i64 y.base] 49))).size); have HBb := Lib.hid hbb; have HPRE3 := Lib.hid trivial; clear hownb hgrowb hatb hbb)
              | (have hpre := HPRE2; clear hpre HPRE2; refine step_append_srcN _ (by rfl) (.tmp 37) (.tmp 39) 28 (by rfl) w6.heap.size 49 i0 (.agg #[.string ⟨#[]⟩, .int .i64 0, .int .i64 0, .int .i64 0]) 4 40 (by decide) Tryd.underlying28 HZ.out.1 HZ.out.2.1 HZ.out.2.2.1 HZ.out.2.2.2 rfl va r _ (by rfl) (HOa.out) (some ⟨w6.heap.size + 1, 0, none⟩) 1 1 ([y].flatMap Flat.cells) (by rfl) (flat_len [y]) (HSRC.out) (el_one _) (by unfold maxLen; omega) (by omega) (HBa.out).size ?_; intro vb wb hownb hgrowb hatb; have hbb := Below.grown (HBa.out) hgrowb (HBa.out).size HATa.out; have HKB := Lib.hid (keepBE (HX6.out.next hbb) (HE6.out.next hbb)); have HRb := Lib.hid (HR6.out.below hbb); have HOb := Lib.hid hownb; have HATb := Lib.hid (own_from (B := w6.heap.size) hatb HATa.out (HBa.out).size); have HBb := Lib.hid hbb; have HPRE3 := Lib.hid trivial; clear hownb hgrowb hatb hbb)
              | (have hpre := HPRE2; clear hpre HPRE2; refine step_append_srcN _ (by rfl) (.tmp 37) (.tmp 39) 28 (by rfl) w6.heap.size 49 i0 (.agg #[.string ⟨#[]⟩, .int .i64 0, .int .i64 0, .int .i64 0]) 4 40 (by decide) Tryd.underlying28 HZ.out.1 HZ.out.2.1 HZ.out.2.2.1 HZ.out.2.2.2 rfl va r _ (by rfl) (HOa.out) (some ⟨w6.heap.size, 0, none⟩) 1 1 ([y].flatMap Flat.cells) (by rfl) (flat_len [y]) (HSRC.out) (el_one _) (by unfold maxLen; omega) (by omega) (HBa.out).size ?_; intro vb wb hownb hgrowb hatb; have hbb := Below.grown (HBa.out) hgrowb (HBa.out).size HATa.out; have HKB := Lib.hid (keepBE (HX6.out.next hbb) (HE6.out.next hbb)); have HRb := Lib.hid (HR6.out.below hbb); have HOb := Lib.hid hownb; have HATb := Lib.hid (own_from (B := w6.heap.size) hatb HATa.out (HBa.out).size); have HBb := Lib.hid hbb; have HPRE3 := Lib.hid trivial; clear hownb hgrowb hatb hbb)
              | (have hpre := HPRE3; clear hpre HPRE3; refine step_append_srcN _ (by rfl) (.tmp 40) (.tmp 44) 28 (by rfl) w6.heap.size 49 i0 (.agg #[.string ⟨#[]⟩, .int .i64 0, .int .i64 0, .int .i64 0]) 4 40 (by decide) Tryd.underlying28 HZ.out.1 HZ.out.2.1 HZ.out.2.2.1 HZ.out.2.2.2 rfl vb (r + 1) _ (by rfl) HOb.out (some ⟨b, o, none⟩) d' _ ((x.els.drop r).flatMap Flat.cells) (by rfl) (by rw [flat_len, List.length_drop]; have := HD.out; show _ * 4 = _; omega) (fun hp => absurd HD0.out (Nat.ne_of_gt hp)) (el_one _) (by unfold maxLen; omega) (by omega) HBb.out.size ?_; intro vc w7 hown7 hgrow7 hat7; rw [ins_cells, HCNT.out] at hown7; obtain ⟨g7, c7, rfl, hg7, hgl7⟩ := row_pos hown7 (Nat.succ_pos _); have hb7 := Below.grown HBb.out hgrow7 HBb.out.size HATb.out; have HKC := Lib.hid (keepBE (HX6.out.next hb7) (HE6.out.next hb7)); have HKCs := Lib.hid (fun u => keepSet (w4.heap.size) u HNE.out (keepBE (HX6.out.next hb7) (HE6.out.next hb7))); have HB67 := Lib.hid hb7; have HG7 := Lib.hid (And.intro hg7 hgl7); have HO7 := Lib.hid (show OwnAt w7 g7 0 (insEl x.els r y) from own_of_row (α := El) (cap := c7) (e := 49) (base := w6.heap.size) (insEl x.els r y) (by rw [insEl_len _ _ _ HIN.out.le]; exact hown7)); have HY7 := Lib.hid (HY6.out.below hb7 (by have := HS6.out; omega)); have HM7 := Lib.hid (HM6.out.below hb7 (by have := HS6.out; omega)); have HI7 := Lib.hid (HI6.out.block (hb7.block g2 (by have := HS6.out; omega))); have HB7 := Lib.hid (Below_next HB6.out hb7); obtain ⟨y0, y1, y2, y3, y4, y5, yf⟩ := HY7.out; clear hown7 hgrow7 hat7 hb7 hg7 hgl7)
              | fail)
          all_goals
            go_wp2_with fail
            clear y0 y1 y2 y3 y4 y5 yf
            go_meet
            have hk8 : Only (fun k => k = w4.heap.size) w7 (w7.setCell ⟨w4.heap.size, 0, none⟩ (.slice (some ⟨g7, 0, none⟩) (x.els.length + 1) c7)) := (Only.refl (fun k => k = w4.heap.size) w7).put w4.heap.size 0 rfl _
            have hq := HS6.out
            have hg := HG7.out
            have hs := HB67.out.size
            have hs8 := hk8.size
            exact ⟨g7, c7, ⟨hg.1, by omega⟩, Lib.hid (HY7.out.set0 _), Lib.hid (HM7.out.only hk8 (by omega) (by omega)), Lib.hid (HO7.out.block (hk8.block g7 (by omega) (by omega))), Lib.hid (HI7.out.block (hk8.block g2 (by omega) (by omega))), Lib.hid (HB7.out.trans (hk8.below HB7.out.size (fun k e => by omega))), by omega⟩

        · have HCI := Lib.hid (rfl : r = r)
          go_region_held3 (fun w' => w'.cell? ⟨w.heap.size, 0, none⟩ = some (.slice (some ⟨b, o, none⟩) x.els.length c) ∧ w'.cell? ⟨w.heap.size + 1, 0, none⟩ = some (.string y.name) ∧ w'.cell? ⟨w.heap.size + 1, 1, none⟩ = some (.int .i64 y.fam) ∧ w'.cell? ⟨w.heap.size + 1, 2, none⟩ = some (.int .i64 y.lev) ∧ w'.cell? ⟨w.heap.size + 1, 3, none⟩ = some (.int .i64 y.base))
            (first | (with_reducible exact HKd.out) | (with_reducible exact HKa.out _) | (with_reducible exact HKaa.out _ _) | (with_reducible exact HKA.out) | (with_reducible exact HKA1.out _) | (with_reducible exact HKB.out) | (with_reducible exact HKC.out) | (with_reducible exact HKCs.out _) | fail)
            (first
              | (have hpre := HPRE1; clear hpre HPRE1; refine step_append_srcN _ (by rfl) (.tmp 32) (.tmp 36) 28 (by rfl) w6.heap.size 49 i0 (.agg #[.string ⟨#[]⟩, .int .i64 0, .int .i64 0, .int .i64 0]) 4 40 (by decide) Tryd.underlying28 HZ.out.1 HZ.out.2.1 HZ.out.2.2.1 HZ.out.2.2.2 rfl (.slice (some ⟨w6.heap.size, 0, none⟩) 0 0) 0 [] (by rfl) (owns_emptyN _ _ _ _ _ (by omega) (heap_at_new w6 _ _ rfl)) (some ⟨b, o, none⟩) r _ ((x.els.take r).flatMap Flat.cells) (by rfl) (by rw [flat_len, List.length_take, Nat.min_eq_left (by omega)]; rfl) (take_src HR6.out.els (below_adn w6 _) r r (by omega) rfl) (el_one _) (by unfold maxLen; omega) (by omega) (below_adn w6 _).size ?_; intro va wa howna hgrowa hata; rw [Nat.zero_add, List.nil_append] at howna; have hba := Below.grown (below_adn w6 _) hgrowa (below_adn w6 _).size (fun kk e => by simp [Value.ownBlock] at e; omega); have HFR := Lib.hid trivial; have HKA := Lib.hid (keepBE (HX6.out.next hba) (HE6.out.next hba)); have HKA1 := Lib.hid (fun ob => keepBE (HX6.out.next (Below_next hba (below_alloc wa ob))) (HE6.out.next (Below_next hba (below_alloc wa ob)))); have HOa := Lib.hid howna; have HATa := Lib.hid (own_from (B := w6.heap.size) hata (fun k e => by simp [Value.ownBlock] at e; omega) (below_adn w6 _).size); have HBa := Lib.hid hba; have HPRE2 := Lib.hid trivial; clear howna hgrowa hata hba)
              | (have hpre := HPRE1; clear hpre HPRE1; refine step_append_srcN _ (by rfl) (.tmp 32) (.tmp 36) 28 (by rfl) w6.heap.size 49 i0 (.agg #[.string ⟨#[]⟩, .int .i64 0, .int .i64 0, .int .i64 0]) 4 40 (by decide) Tryd.underlying28 HZ.out.1 HZ.out.2.1 HZ.out.2.2.1 HZ.out.2.2.2 rfl (.slice (some ⟨w6.heap.size, 0, none⟩) 0 0) 0 [] (by rfl) (owns_emptyN _ _ _ _ _ (by omega) (heap_at_two w6 _ _)) (some ⟨b, o, none⟩) r _ ((x.els.take r).flatMap Flat.cells) (by rfl) (by rw [flat_len, List.length_take, Nat.min_eq_left (by omega)]; rfl) (take_src HR6.out.els (below_ad2 w6 _ _) r r (by omega) rfl) (el_one _) (by unfold maxLen; omega) (by omega) (below_ad2 w6 _ _).size ?_; intro va wa howna hgrowa hata; rw [Nat.zero_add, List.nil_append] at howna; have hba := Below.grown (below_ad2 w6 _ _) hgrowa (below_ad2 w6 _ _).size (fun kk e => by simp [Value.ownBlock] at e; omega); have HSRC := Lib.hid (src_two w6 _ y wa hgrowa); have HKA := Lib.hid (keepBE (HX6.out.next hba) (HE6.out.next hba)); have HKA1 := Lib.hid (fun ob => keepBE (HX6.out.next (Below_next hba (below_alloc wa ob))) (HE6.out.next (Below_next hba (below_alloc wa ob)))); have HOa := Lib.hid howna; have HATa := Lib.hid (own_from (B := w6.heap.size) hata (fun k e => by simp [Value.ownBlock] at e; omega) (below_ad2 w6 _ _).size); have HBa := Lib.hid hba; have HPRE2 := Lib.hid trivial; clear howna hgrowa hata hba)
              | (have hpre := HPRE1; clear hpre HPRE1; refine step_append_srcN _ (by rfl) (.tmp 32) (.tmp 36) 28 (by rfl) w6.heap.size 49 i0 (.agg #[.string ⟨#[]⟩, .int .i64 0, .int .i64 0, .int .i64 0]) 4 40 (by decide) Tryd.underlying28 HZ.out.1 HZ.out.2.1 HZ.out.2.2.1 HZ.out.2.2.2 rfl (.slice (some ⟨w6.heap.size + 1, 0, none⟩) 0 0) 0 [] (by rfl) (owns_emptyN _ _ _ _ _ (by omega) (heap_at_sec w6 _ _)) (some ⟨b, o, none⟩) r _ ((x.els.take r).flatMap Flat.cells) (by rfl) (by rw [flat_len, List.length_take, Nat.min_eq_left (by omega)]; rfl) (take_src HR6.out.els (below_ad2 w6 _ _) r r (by omega) rfl) (el_one _) (by unfold maxLen; omega) (by omega) (below_ad2 w6 _ _).size ?_; intro va wa howna hgrowa hata; rw [Nat.zero_add, List.nil_append] at howna; have hba := Below.grown (below_ad2 w6 _ _) hgrowa (below_ad2 w6 _ _).size (fun kk e => by simp [Value.ownBlock] at e; omega); have HSRC := Lib.hid (src_one w6 _ y wa hgrowa); have HKA := Lib.hid (keepBE (HX6.out.next hba) (HE6.out.next hba)); have HKA1 := Lib.hid (fun ob => keepBE (HX6.out.next (Below_next hba (below_alloc wa ob))) (HE6.out.next (Below_next hba (below_alloc wa ob)))); have HOa := Lib.hid howna; have HATa := Lib.hid (own_from (B := w6.heap.size) hata (fun k e => by simp [Value.ownBlock] at e; omega) (below_ad2 w6 _ _).size); have HBa := Lib.hid hba; have HPRE2 := Lib.hid trivial; clear howna hgrowa hata hba)
              | (have hpre := HPRE2; have hfr := HFR; clear hfr HFR; clear hpre HPRE2; refine step_append_srcN _ (by rfl) (.tmp 37) (.tmp 39) 28 (by rfl) w6.heap.size 49 i0 (.agg #[.string ⟨#[]⟩, .int .i64 0, .int .i64 0, .int .i64 0]) 4 40 (by decide) Tryd.underlying28 HZ.out.1 HZ.out.2.1 HZ.out.2.2.1 HZ.out.2.2.2 rfl va r _ (by rfl) (row_next HOa.out (below_alloc wa _)) (some ⟨wa.heap.size, 0, none⟩) 1 1 ([y].flatMap Flat.cells) (by rfl) (flat_len [y]) (src_new wa y _) (el_one _) (by unfold maxLen; omega) (by omega) (Below_next HBa.out (below_alloc wa (Obj.cells #[.string y.name, .int .i64 y.fam, .int .i64 y.lev, .int .i64 y.base] 49))).size ?_; intro vb wb hownb hgrowb hatb; have hbb := Below.grown (Below_next HBa.out (below_alloc wa (Obj.cells #[.string y.name, .int .i64 y.fam, .int .i64 y.lev, .int .i64 y.base] 49))) hgrowb (Below_next HBa.out (below_alloc wa (Obj.cells #[.string y.name, .int .i64 y.fam, .int .i64 y.lev, .int .i64 y.base] 49))).size HATa.out; have HKB := Lib.hid (keepBE (HX6.out.next hbb) (HE6.out.next hbb)); have HRb := Lib.hid (HR6.out.below hbb); have HOb := Lib.hid hownb; have HATb := Lib.hid (own_from (B := w6.heap.size) hatb HATa.out (Below_next HBa.out (below_alloc wa (Obj.cells #[.string y.name, .int .i64 y.fam, .int .i64 y.lev, .int .i64 y.base] 49))).size); have HBb := Lib.hid hbb; have HPRE3 := Lib.hid trivial; clear hownb hgrowb hatb hbb)
              | (have hpre := HPRE2; clear hpre HPRE2; refine step_append_srcN _ (by rfl) (.tmp 37) (.tmp 39) 28 (by rfl) w6.heap.size 49 i0 (.agg #[.string ⟨#[]⟩, .int .i64 0, .int .i64 0, .int .i64 0]) 4 40 (by decide) Tryd.underlying28 HZ.out.1 HZ.out.2.1 HZ.out.2.2.1 HZ.out.2.2.2 rfl va r _ (by rfl) (HOa.out) (some ⟨w6.heap.size + 1, 0, none⟩) 1 1 ([y].flatMap Flat.cells) (by rfl) (flat_len [y]) (HSRC.out) (el_one _) (by unfold maxLen; omega) (by omega) (HBa.out).size ?_; intro vb wb hownb hgrowb hatb; have hbb := Below.grown (HBa.out) hgrowb (HBa.out).size HATa.out; have HKB := Lib.hid (keepBE (HX6.out.next hbb) (HE6.out.next hbb)); have HRb := Lib.hid (HR6.out.below hbb); have HOb := Lib.hid hownb; have HATb := Lib.hid (own_from (B := w6.heap.size) hatb HATa.out (HBa.out).size); have HBb := Lib.hid hbb; have HPRE3 := Lib.hid trivial; clear hownb hgrowb hatb hbb)
              | (have hpre := HPRE2; clear hpre HPRE2; refine step_append_srcN _ (by rfl) (.tmp 37) (.tmp 39) 28 (by rfl) w6.heap.size 49 i0 (.agg #[.string ⟨#[]⟩, .int .i64 0, .int .i64 0, .int .i64 0]) 4 40 (by decide) Tryd.underlying28 HZ.out.1 HZ.out.2.1 HZ.out.2.2.1 HZ.out.2.2.2 rfl va r _ (by rfl) (HOa.out) (some ⟨w6.heap.size, 0, none⟩) 1 1 ([y].flatMap Flat.cells) (by rfl) (flat_len [y]) (HSRC.out) (el_one _) (by unfold maxLen; omega) (by omega) (HBa.out).size ?_; intro vb wb hownb hgrowb hatb; have hbb := Below.grown (HBa.out) hgrowb (HBa.out).size HATa.out; have HKB := Lib.hid (keepBE (HX6.out.next hbb) (HE6.out.next hbb)); have HRb := Lib.hid (HR6.out.below hbb); have HOb := Lib.hid hownb; have HATb := Lib.hid (own_from (B := w6.heap.size) hatb HATa.out (HBa.out).size); have HBb := Lib.hid hbb; have HPRE3 := Lib.hid trivial; clear hownb hgrowb hatb hbb)
              | (have hpre := HPRE3; clear hpre HPRE3; refine step_append_srcN _ (by rfl) (.tmp 40) (.tmp 44) 28 (by rfl) w6.heap.size 49 i0 (.agg #[.string ⟨#[]⟩, .int .i64 0, .int .i64 0, .int .i64 0]) 4 40 (by decide) Tryd.underlying28 HZ.out.1 HZ.out.2.1 HZ.out.2.2.1 HZ.out.2.2.2 rfl vb (r + 1) _ (by rfl) HOb.out (some ⟨b, o + r * 4, none⟩) d' _ ((x.els.drop r).flatMap Flat.cells) (by rfl) (by rw [flat_len, List.length_drop]; have := HD.out; show _ * 4 = _; omega) (drop_src HRb.out.els (Below.refl _ _) r d' (by omega)) (el_one _) (by unfold maxLen; omega) (by omega) HBb.out.size ?_; intro vc w7 hown7 hgrow7 hat7; rw [ins_cells, HCNT.out] at hown7; obtain ⟨g7, c7, rfl, hg7, hgl7⟩ := row_pos hown7 (Nat.succ_pos _); have hb7 := Below.grown HBb.out hgrow7 HBb.out.size HATb.out; have HKC := Lib.hid (keepBE (HX6.out.next hb7) (HE6.out.next hb7)); have HKCs := Lib.hid (fun u => keepSet (w4.heap.size) u HNE.out (keepBE (HX6.out.next hb7) (HE6.out.next hb7))); have HB67 := Lib.hid hb7; have HG7 := Lib.hid (And.intro hg7 hgl7); have HO7 := Lib.hid (show OwnAt w7 g7 0 (insEl x.els r y) from own_of_row (α := El) (cap := c7) (e := 49) (base := w6.heap.size) (insEl x.els r y) (by rw [insEl_len _ _ _ HIN.out.le]; exact hown7)); have HY7 := Lib.hid (HY6.out.below hb7 (by have := HS6.out; omega)); have HM7 := Lib.hid (HM6.out.below hb7 (by have := HS6.out; omega)); have HI7 := Lib.hid (HI6.out.block (hb7.block g2 (by have := HS6.out; omega))); have HB7 := Lib.hid (Below_next HB6.out hb7); obtain ⟨y0, y1, y2, y3, y4, y5, yf⟩ := HY7.out; clear hown7 hgrow7 hat7 hb7 hg7 hgl7)
              | fail)
          all_goals
            go_wp2_with fail
            clear y0 y1 y2 y3 y4 y5 yf
            go_meet
            have hk8 : Only (fun k => k = w4.heap.size) w7 (w7.setCell ⟨w4.heap.size, 0, none⟩ (.slice (some ⟨g7, 0, none⟩) (x.els.length + 1) c7)) := (Only.refl (fun k => k = w4.heap.size) w7).put w4.heap.size 0 rfl _
            have hq := HS6.out
            have hg := HG7.out
            have hs := HB67.out.size
            have hs8 := hk8.size
            exact ⟨g7, c7, ⟨hg.1, by omega⟩, Lib.hid (HY7.out.set0 _), Lib.hid (HM7.out.only hk8 (by omega) (by omega)), Lib.hid (HO7.out.block (hk8.block g7 (by omega) (by omega))), Lib.hid (HI7.out.block (hk8.block g2 (by omega) (by omega))), Lib.hid (HB7.out.trans (hk8.below HB7.out.size (fun k e => by omega))), by omega⟩

      case rest =>
        obtain ⟨g7, c7, hg7, HY8, HM8, HO8, HI8, HB8, hs8⟩ := hcut
        obtain ⟨w8, hw8⟩ : ∃ w8, w8 = wc := ⟨wc, rfl⟩
        subst hw8
        have HQ := Lib.hid (show (w2.heap.size ≤ g2 ∧ g2 < w4.heap.size ∧ w4.heap.size < w6.heap.size ∧ w.heap.size + 3 ≤ w2.heap.size) ∧ (w6.heap.size ≤ g7 ∧ g7 < w8.heap.size) ∧ w6.heap.size ≤ w8.heap.size from ⟨HS6.out, hg7, hs8⟩)
        have HLEN := Lib.hid (show (adCd x y r).els.length = x.els.length + 1 from insEl_len _ _ _ HIN.out.le)
        clear hg7 hs8
        have hat : CdAt w8 (some ⟨g7, 0, none⟩) (some ⟨g2, 0, none⟩) (adCd x y r) := ⟨fun _ => ⟨g7, 0, rfl, by have := HQ.out; omega, HO8.out.cell⟩, fun _ => ⟨g2, 0, rfl, by have := HQ.out; omega, HI8.out.cell⟩⟩
        have hcall := sIf_any (some ⟨g7, 0, none⟩) (some ⟨g2, 0, none⟩) c7 c2 (adCd x y r) w8 hat (adCd_fits HOK.out HY.out HIN.out.le)
        unfold Cd.val at hcall
        rw [HLEN.out] at hcall
        have HCALL := Lib.hid hcall
        clear hcall hat
        obtain ⟨y0, y1, y2, y3, y4, y5, yf⟩ := HY8.out
        go_wp2_with fail
        clear y0 y1 y2 y3 y4 y5 yf
        refine HCALL.out.mono ?_
        rintro e w9 ⟨hy, hn, hb⟩
        have HM9 := Lib.hid (HM8.out.below hb (by have := HQ.out; omega))
        have HO9 := Lib.hid (HO8.out.block (hb.block g7 (by have := HQ.out; omega)))
        have HI9 := Lib.hid (HI8.out.block (hb.block g2 (by have := HQ.out; omega)))
        have HB9 := Lib.hid (Below_next HB8.out hb)
        have HS9 := Lib.hid hb.size
        clear hb
        obtain ⟨m0, m1, m2, m3, m4, m5, mf⟩ := HM9.out
        by_cases hR : CdOk (adCd x y r)
        · have HRR := Lib.hid (show AdOk x y r from ⟨HOK.out, hR⟩)
          have he := hy hR
          clear hy hn hR
          subst he
          go_wp2
          refine stop_body ⟨?_⟩
          intro wz hwz
          have hmz := HM9.out.all (.slice (some ⟨g7, 0, none⟩) (x.els.length + 1) c7) (.slice (some ⟨g2, 0, none⟩) x.lims.length c2) (.int .i64 x.rep) (.int .i64 x.bon) (.int .i64 x.kee) (.int .i64 x.fal)
          have hkz := only_six w9 (w.heap.size + 1 + 1) (.slice (some ⟨g7, 0, none⟩) (x.els.length + 1) c7) (.slice (some ⟨g2, 0, none⟩) x.lims.length c2) (.int .i64 x.rep) (.int .i64 x.bon) (.int .i64 x.kee) (.int .i64 x.fal)
          rw [show put6 w9 (w.heap.size + 1 + 1) (.slice (some ⟨g7, 0, none⟩) (x.els.length + 1) c7) (.slice (some ⟨g2, 0, none⟩) x.lims.length c2) (.int .i64 x.rep) (.int .i64 x.bon) (.int .i64 x.kee) (.int .i64 x.fal) = wz from hwz.symm] at hmz hkz
          have HKZ := Lib.hid hkz
          clear hwz hkz m0 m1 m2 m3 m4 m5 mf
          obtain ⟨m0, m1, m2, m3, m4, m5, mf⟩ := hmz
          refine bodyPost_ret (v := .tuple #[.agg #[.slice (some ⟨g7, 0, none⟩) (x.els.length + 1) c7, .slice (some ⟨g2, 0, none⟩) x.lims.length c2, .int .i64 x.rep, .int .i64 x.bon, .int .i64 x.kee, .int .i64 x.fal], .bool true]) (by simp [results, Tryd.results30, go_sem, m0, m1, m2, m3, m4, m5]) rfl ?_
          refine ⟨⟨some ⟨g7, 0, none⟩, c7, some ⟨g2, 0, none⟩, c2, g7, g2, ?_, ?_, by have := HQ.out; omega, ?_, ?_⟩, HB9.out.trans (HKZ.out.below HB9.out.size (fun k hk => by omega))⟩
          · rw [adR_yes HRR.out, pB_yes HRR.out]
            show _ = Ending.returned (.tuple #[.agg #[.slice (some ⟨g7, 0, none⟩) (adCd x y r).els.length c7, _, _, _, _, _], _])
            rw [HLEN.out]
            rfl
          · rw [adR_yes HRR.out]
            exact ⟨fun _ => ⟨g7, 0, rfl, rfl, by have := HQ.out; have := HS9.out; have := HKZ.out.size; omega, HO9.out.block (HKZ.out.block g7 (by have := HQ.out; have := HS9.out; omega) (by have := HQ.out; omega))⟩, fun _ => ⟨g2, 0, rfl, rfl, by have := HQ.out; have := HS9.out; have := HKZ.out.size; omega, HI9.out.block (HKZ.out.block g2 (by have := HQ.out; have := HS9.out; omega) (by have := HQ.out; omega))⟩⟩
          · have := HQ.out; have := HS9.out; have := HKZ.out.size; omega
          · have := HQ.out; have := HS9.out; have := HKZ.out.size; omega
        · have HRR := Lib.hid (fun h : AdOk x y r => hR h.2)
          have he := hn hR
          clear hy hn hR
          subst he
          unfold Cd.zero
          go_wp2
          refine stop_body ⟨?_⟩
          intro wz hwz
          have hmz := HM9.out.all (.slice none 0 0) (.slice none 0 0) (.int .i64 0) (.int .i64 0) (.int .i64 0) (.int .i64 0)
          have hkz := only_six w9 (w.heap.size + 1 + 1) (.slice none 0 0) (.slice none 0 0) (.int .i64 0) (.int .i64 0) (.int .i64 0) (.int .i64 0)
          rw [show put6 w9 (w.heap.size + 1 + 1) (.slice none 0 0) (.slice none 0 0) (.int .i64 0) (.int .i64 0) (.int .i64 0) (.int .i64 0) = wz from hwz.symm] at hmz hkz
          have HKZ := Lib.hid hkz
          clear hwz hkz m0 m1 m2 m3 m4 m5 mf
          obtain ⟨m0, m1, m2, m3, m4, m5, mf⟩ := hmz
          refine bodyPost_ret (v := .tuple #[.agg #[.slice none 0 0, .slice none 0 0, .int .i64 0, .int .i64 0, .int .i64 0, .int .i64 0], .bool false]) (by simp [results, Tryd.results30, go_sem, m0, m1, m2, m3, m4, m5]) rfl ?_
          exact codeAns_no HRR.out (adR_no HRR.out) rfl (by have := HQ.out; have := HS9.out; have := HKZ.out.size; omega) (HB9.out.trans (HKZ.out.below HB9.out.size (fun k hk => by omega)))

  · rw [pB_no hok] at he
    subst he
    have HRR := Lib.hid (fun h : AdOk x y r => hok h.1)
    clear hok
    obtain ⟨m0, m1, m2, m3, m4, m5, mf⟩ := HM2.out
    go_wp2
    refine stop_body ⟨?_⟩
    intro wz hwz
    have hmz := HM2.out.all (.slice none 0 0) (.slice none 0 0) (.int .i64 0) (.int .i64 0) (.int .i64 0) (.int .i64 0)
    have hkz := only_six w2 (w.heap.size + 1 + 1) (.slice none 0 0) (.slice none 0 0) (.int .i64 0) (.int .i64 0) (.int .i64 0) (.int .i64 0)
    rw [show put6 w2 (w.heap.size + 1 + 1) (.slice none 0 0) (.slice none 0 0) (.int .i64 0) (.int .i64 0) (.int .i64 0) (.int .i64 0) = wz from hwz.symm] at hmz hkz
    have HKZ := Lib.hid hkz
    clear hwz hkz m0 m1 m2 m3 m4 m5 mf
    obtain ⟨m0, m1, m2, m3, m4, m5, mf⟩ := hmz
    refine bodyPost_ret (v := .tuple #[.agg #[.slice none 0 0, .slice none 0 0, .int .i64 0, .int .i64 0, .int .i64 0, .int .i64 0], .bool false]) (by simp [results, Tryd.results30, go_sem, m0, m1, m2, m3, m4, m5]) rfl ?_
    exact codeAns_no HRR.out (adR_no HRR.out) rfl (by have := HS2.out; have := HKZ.out.size; omega) (HB2.out.trans (HKZ.out.below HB2.out.size (fun k hk => by omega)))

end Go.Proofs.YtmncigeelfappaaDoor
