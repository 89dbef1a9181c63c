/- A copy of a list of numbers, by rising numbers of them: the comparison, the sort. A copy of a list of numbers, by rising numbers of them. elementsFromGreatest of the program: all elements by falling bases. BestNames of the program. l1Put of the model: a number put into a rising list. BestNames of the model. -/
import Derived.Test.YtocjkhfghldnnaaDoorBp
import Derived.Deep.QuietTactic
import Derived.BigQuiet
import Derived.Test.YtocjkhfghldnnaaDoorPnF
import Derived.Test.YtocjkhfghldnnaaDoorAppN
import Derived.Shelf.SlGeneric
import Derived.Test.YtocjkhfghldnnaaDoorPnE
import Derived.Test.YtocjkhfghldnnaaDoorBr
import Derived.Test.YtocjkhfghldnnaaDoorPnH
import Derived.Test.YtocjkhfghldnnaaDoorPnG
import Derived.Test.YtocjkhfghldnnaaDoorCdA
namespace Go.Proofs.YtocjkhfghldnnaaDoor
open Go.ChangeShapes Go.WideShapes Go.ChangeAt Go.RowKit Go.Lib Go.Sort Go.Proofs
set_option linter.unusedVariables false

theorem isNaN_any (u : Int) (w : World) : Calls Tryd.prog 89 #[.int .i64 u] w fun e w' => e = .returned (.bool false) ∧ w = w' := by
  go_enter Tryd.func89, Tryd.ntmps89
  go_wp2
  go_ret
  exact ⟨rfl, rfl⟩
def cmpI (a b : Int) : Int := if a < b then -1 else if b < a then 1 else 0
theorem compare_any (a b : Int) (w : World) : Calls Tryd.prog 70 #[.int .i64 a, .int .i64 b] w fun e w' => e = .returned (.int .i64 (cmpI a b)) ∧ w = w' := by
  go_enter Tryd.func70, Tryd.ntmps70
  rcases Int.lt_trichotomy a b with h | h | h
  · have HV := Lib.hid (show cmpI a b = -1 from if_pos h)
    go_wp2_with (first | (go_at_call 89; refine (isNaN_any _ _).mono ?_; rintro e w' ⟨rfl, rfl⟩))
    go_ret
    exact ⟨by rw [HV.out]; rfl, rfl⟩
  · subst h
    have HV := Lib.hid (show cmpI a a = 0 from (if_neg (Int.lt_irrefl a)).trans (if_neg (Int.lt_irrefl a)))
    go_wp2_with (first | (go_at_call 89; refine (isNaN_any _ _).mono ?_; rintro e w' ⟨rfl, rfl⟩))
    go_ret
    exact ⟨by rw [HV.out]; rfl, rfl⟩
  · have h2 : b ≤ a := Int.le_of_lt h
    have HV := Lib.hid (show cmpI a b = 1 from (if_neg (by omega)).trans (if_pos h))
    go_wp2_with (first | (go_at_call 89; refine (isNaN_any _ _).mono ?_; rintro e w' ⟨rfl, rfl⟩))
    go_ret
    exact ⟨by rw [HV.out]; rfl, rfl⟩
set_option maxHeartbeats 4000000 in
set_option maxRecDepth 100000 in
theorem sbC_any (G : Nat) (ptr : Value) (q : Nat) (u v a b : Int) (W : World) (eG : ∀ args w, (callFunc G args).run Tryd.prog w = .ok (.enter G args) w) (hq : ∀ k, (W.drewN k).cell? ⟨q, 0, none⟩ = some (.func (.func G) #[] #[ptr])) (hu : ∀ k, Calls Tryd.prog G (#[.int .i64 u] ++ #[ptr]) (W.drewN k) fun e w' => e = .returned (.int .i64 a) ∧ w' = W.drewN k) (hv : ∀ k, Calls Tryd.prog G (#[.int .i64 v] ++ #[ptr]) (W.drewN k) fun e w' => e = .returned (.int .i64 b) ∧ w' = W.drewN k) :
    Calls Tryd.prog 69 #[.int .i64 u, .int .i64 v, .pointer (some ⟨q, 0, none⟩)] W fun e w' => e = .returned (.int .i64 (cmpI a b)) ∧ ∃ k, w' = W.drewN k := by
  have mixed : Tryd.prog.follows .mixedOrders = true := by kernel_rfl
  go_enter Tryd.func69, Tryd.ntmps69
  go_wp2_with fail
  go_quiet (first | (go_at_fn G; first | exact Calls.quiet_of_same (hu _) | exact Calls.quiet_of_same (hv _)) | (go_at_call 70; exact Calls.quiet_of_same ((compare_any _ _ _).mono fun _ _ h => ⟨h.1, h.2.symm⟩)))
  go_wp2
  go_ret
  exact ⟨rfl, _, rfl⟩
end Go.Proofs.YtocjkhfghldnnaaDoor

namespace Go.Proofs.YtocjkhfghldnnaaDoor
open Go.ChangeShapes Go.WideShapes Go.ChangeAt Go.RowKit Go.Lib Go.Sort Go.Proofs
set_option linter.unusedVariables false

theorem flatMap_intX (xs : List Int) : xs.flatMap Flat.cells = xs.map (Value.int .i64) := by
  induction xs with
  | nil => rfl
  | cons x r ih =>
    rw [List.flatMap_cons, List.map_cons, ih]
    rfl
theorem cloneL_any (b o c : Nat) (xs : List Int) (w : World) (hc : ∀ i, i < xs.length → w.cell? ⟨b, o + i, none⟩ = some (.int .i64 (it xs i))) (hl : xs.length ≤ 1048576) :
    Calls Tryd.prog 32 #[.slice (some ⟨b, o, none⟩) xs.length c] w fun e w' => ∃ g cap, e = .returned (.slice (some ⟨g, 0, none⟩) xs.length cap) ∧ OwnAt w' g 0 xs ∧ w.heap.size ≤ g ∧ g < w'.heap.size ∧ Below w.heap.size w w' := by
  refine (Tryd.slices_Clone_int b o xs.length c xs w (Nat.le_refl _) (by omega) hc).mono ?_
  rintro e w' ⟨v, rfl, ho, hne, hb⟩
  rw [List.take_length] at ho
  rcases ho.2 with ⟨hv, _⟩ | ⟨g, cap, cur, rfl, _⟩
  · exact absurd hv hne
  · refine ⟨g, cap, rfl, ?_, (ho.lt g rfl).1, (ho.lt g rfl).2, hb⟩
    refine own_of_row (α := Int) (cap := cap) (e := 3) (base := w.heap.size) xs ?_
    rw [flatMap_intX]
    exact ho
theorem heap_mapBlock (w : World) (b k : Nat) (f : Array Value → Array Value) (h : k ≠ b) : (Sort.mapBlock w b f).heap[k]? = w.heap[k]? := by
  unfold Sort.mapBlock
  simp only [Array.getElem?_modify]
  rw [if_neg (by omega)]
theorem sw_below {l : List Int} {w0 W : World} {blk off : Nat} {d : Array Nat} (h : SW (encI l) w0 blk off d W) (hb : blk < w0.heap.size) : Below blk w0 W := by
  obtain ⟨n, os, rfl⟩ := h
  unfold sortWorld
  refine ⟨rfl, rfl, rfl, by simp, fun k hk => ?_⟩
  rw [Sort.heap_grow_old _ _ (by simp; omega)]
  unfold Sort.putRow
  rw [heap_mapBlock _ _ _ _ (by omega)]
  rfl
theorem range_get (n i : Nat) (h : i < n) : (Array.range n)[i]! = i := by rw [getElem!_pos _ i (by simpa using h)]; simp
theorem row_of_own {l : List Int} {w : World} {g : Nat} (h : OwnAt w g 0 l) (hg : g < w.heap.size) : Row1 (encI l) w g 0 (Array.range l.length) := by
  refine ⟨encI_one l, fun j hj => ?_, hg⟩
  have hj' : j < l.length := by simpa using hj
  have h1 := h.cell j hj' 0 _ rfl
  have h2 := h.free j 0 hj' (by decide)
  rw [range_get _ _ hj']
  simp only [Nat.zero_add, Nat.add_zero] at h1 h2 ⊢
  have e : j * Flat.sz Int = j := Nat.mul_one j
  rw [e] at h1 h2
  exact ⟨h1, h2⟩
theorem own_of_sw {l : List Int} {w0 W : World} {g : Nat} {d0 d : Array Nat} (S : SW (encI l) w0 g 0 d W) (R : Row1 (encI l) w0 g 0 d0) (hs : d.size = d0.size) : OwnAt W g 0 (d.toList.map (it l)) := by
  refine ⟨fun i hi => ?_, fun i j hi hj => ?_⟩
  · have hi' : i < d.size := by simpa using hi
    have h1 := S.c1 R hs i hi'
    have e : it (d.toList.map (it l)) i = it l d[i]! := by
      rw [getElem!_pos d i hi']
      simp [it, List.getD_eq_getElem?_getD, hi']
    intro k v hk
    rw [e] at hk
    match k, hk with
    | 0, hk =>
      have hv : v = encI l d[i]! := (Option.some.inj hk).symm
      rw [hv, ← h1]
      have e2 : (0 + i * Flat.sz Int + 0 : Nat) = 0 + i := by show 0 + i * 1 + 0 = 0 + i; omega
      rw [e2]
  · have hi' : i < d.size := by simpa using hi
    have hj' : j = 0 := by have : j < 1 := hj; omega
    subst hj'
    have h1 := S.f1 R hs i hi'
    have e2 : (0 + i * Flat.sz Int + 0 : Nat) = 0 + i := by show 0 + i * 1 + 0 = 0 + i; omega
    rw [e2]
    exact h1

theorem sortStable_any (key : Nat → Int) (l : List Int) (g : Nat) (cb : Array Value) (blk off cap : Nat) (d0 d : Array Nat) (w0 w : World) (eg : ∀ args w, (callFunc g args).run Tryd.prog w = .ok (.enter g args) w) (hcmp : CmpLays1 Tryd.prog g cb (encI l) (cfK key) blk off d0.size w0) (R : Row1 (encI l) w0 blk off d0) (hs : d0.size = d.size) (S : SW (encI l) w0 blk off d w) (hn : d.size < 40) (hT : ∀ i j, i < j → j < d.size → d[i]! < d[j]!) :
    Calls Tryd.prog 68 #[.slice (some ⟨blk, off, none⟩) d.size cap, .func (.func g) #[] cb] w fun e w' => e = .returned (.tuple #[]) ∧ SymOut key l blk off w0 0 d.size d w' := by
  have HC := Lib.hid (stable_any key l g cb blk off cap d0 d w0 w eg hcmp R hs S hn hT)
  clear eg hcmp R hs S hT
  obtain ⟨N, hN⟩ : ∃ N, N = d.size := ⟨_, rfl⟩
  rw [← hN] at HC hn ⊢
  clear hN
  go_enter Tryd.func68, Tryd.ntmps68
  go_wp2_with (first | (go_at_call 88; refine HC.out.mono ?_; rintro e9 w9 ⟨rfl, ho⟩; have HO := Lib.hid ho; clear ho))
  go_end0
  exact ⟨rfl, HO.out⟩

/-- A sorted copy of a list. -/
structure SrtOf (num : Int → Int) (l : List Int) (d : Array Nat) : Prop where
  sz : d.size = l.length
  pm : PermIn 0 l.length (Array.range l.length) d
  srt : Srt (fun i => num (it l i)) 0 l.length d
theorem sortedBy_any (G : Nat) (ptr : Value) (num : Int → Int) (b o c : Nat) (l : List Int) (w : World) (eG : ∀ args w, (callFunc G args).run Tryd.prog w = .ok (.enter G args) w) (hl : l.length < 40) (hbo : b < w.heap.size) (hc : ∀ i, i < l.length → w.cell? ⟨b, o + i, none⟩ = some (.int .i64 (it l i)))
    (hN : ∀ W' : World, (∀ a : Addr, a.block < w.heap.size → W'.cell? a = w.cell? a) → ∀ i : Nat, Calls Tryd.prog G (#[.int .i64 (it l i)] ++ #[ptr]) W' fun e w' => e = .returned (.int .i64 (num (it l i))) ∧ w' = W') :
    Calls Tryd.prog 58 #[.slice (some ⟨b, o, none⟩) l.length c, .func (.func G) #[] #[ptr]] w fun e w' => ∃ g cap d, e = .returned (.slice (some ⟨g, 0, none⟩) l.length cap) ∧ SrtOf num l d ∧ OwnAt w' g 0 (d.toList.map (it l)) ∧ w.heap.size ≤ g ∧ g < w'.heap.size ∧ Below w.heap.size w w' := by
  obtain ⟨W1, hW1⟩ : ∃ W1, W1 = w.alloc (.cells #[.func (.func G) #[] #[ptr]] 73) := ⟨_, rfl⟩
  have hsz : W1.heap.size = w.heap.size + 1 := by rw [hW1]; simp
  have hb1 : Below w.heap.size w W1 := by rw [hW1]; exact below_alloc w _
  have hq1 : W1.cell? ⟨w.heap.size, 0, none⟩ = some (.func (.func G) #[] #[ptr]) := by rw [hW1]; simp
  have hcl := cloneL_any b o c l W1 (fun i hi => (hb1.cell (p := ⟨b, o + i, none⟩) hbo).trans (hc i hi)) (by omega)
  have HCL := Lib.hid hcl
  have HB1 := Lib.hid hb1
  have HQ1 := Lib.hid hq1
  have HNN := Lib.hid hN
  have HEG := Lib.hid eG
  have ec : ∀ args w, (callFunc 69 args).run Tryd.prog w = .ok (.enter 69 args) w := enters_of Tryd.func69 (by kernel_rfl) rfl
  clear hcl hb1 hq1 hN eG hc
  go_enter Tryd.func58, Tryd.ntmps58
  go_wp2_with fail
  rw [← hW1]
  clear hW1
  refine HCL.out.mono ?_
  rintro e w2 ⟨g, cap, rfl, ho, hg1, hg2, hb2⟩
  have HB2 := Lib.hid (Below_next HB1.out hb2)
  have HR := Lib.hid (row_of_own ho hg2)
  have HB3 := Lib.hid hb2
  have hcmp : CmpLays1 Tryd.prog 69 #[.pointer (some ⟨w.heap.size, 0, none⟩)] (encI l) (cfK fun i => num (it l i)) g 0 (Array.range l.length).size w2 := fun m os dk hs x y => by
    have hsw : SW (encI l) w2 g 0 dk (sortWorld (encI l) w2 g 0 m dk os) := ⟨m, os, rfl⟩
    have hcell : ∀ k (a : Addr), a.block < g → ((sortWorld (encI l) w2 g 0 m dk os).drewN k).cell? a = w2.cell? a := fun k a ha => (sw_below (hsw.drewN k) hg2).cell (p := a) ha
    have hag : ∀ k (a : Addr), a.block < w.heap.size → ((sortWorld (encI l) w2 g 0 m dk os).drewN k).cell? a = w.cell? a := fun k a ha => (hcell k a (by omega)).trans (HB2.out.cell (p := a) ha)
    have h := sbC_any G ptr w.heap.size (it l x) (it l y) (num (it l x)) (num (it l y)) (sortWorld (encI l) w2 g 0 m dk os) HEG.out (fun k => (hcell k ⟨w.heap.size, 0, none⟩ (by show w.heap.size < g; omega)).trans ((HB3.out.cell (p := ⟨w.heap.size, 0, none⟩) (by show w.heap.size < W1.heap.size; omega)).trans HQ1.out)) (fun k => HNN.out _ (hag k) x) (fun k => HNN.out _ (hag k) y)
    refine Calls.mono h ?_
    rintro e w' ⟨rfl, k, rfl⟩
    exact ⟨rfl, k, #[], by rw [grow_empty]⟩
  have hst := sortStable_any (fun i => num (it l i)) l 69 #[.pointer (some ⟨w.heap.size, 0, none⟩)] g 0 cap (Array.range l.length) (Array.range l.length) w2 w2 ec hcmp HR.out rfl (SW.start HR.out.hH) (by simpa using hl) (fun i j hij hj => by
    have hj' : j < l.length := by simpa using hj
    rw [range_get _ _ hj', range_get _ _ (by omega)]
    exact hij)
  rw [Array.size_range] at hst
  have HST := Lib.hid hst
  clear hst hcmp ho hb2 ec
  go_wp2_with (first | (go_at_call 68; refine HST.out.mono ?_; rintro e9 w9 ⟨rfl, hso⟩; have HO := Lib.hid hso; clear hso))
  go_ret
  obtain ⟨d, k1, k2, k3, k4⟩ := HO.out
  have k2' : d.size = l.length := k2.trans Array.size_range
  have hb9 := sw_below k1 hg2
  exact ⟨g, cap, d, rfl, ⟨k2', k3, k4⟩, own_of_sw k1 HR.out k2, by omega, Nat.lt_of_lt_of_le hg2 hb9.size, HB2.out.trans (hb9.mono (by omega))⟩
end Go.Proofs.YtocjkhfghldnnaaDoor

namespace Go.Proofs.YtocjkhfghldnnaaDoor
open Go.ChangeShapes Go.WideShapes Go.ChangeAt Go.RowKit Go.Lib Go.Sort Go.Proofs
set_option linter.unusedVariables false

/-- The numbers 0, 1, .. -/
def idL (n : Nat) : List Int := (List.range n).map fun (i : Nat) => (i : Int)
theorem idL_len (n : Nat) : (idL n).length = n := by simp [idL]
theorem idL_it (n i : Nat) (h : i < n) : it (idL n) i = i := by simp [idL, it, List.getD_eq_getElem?_getD, h]
theorem idL_rng (n i : Nat) (h : 0 < n) : 0 ≤ it (idL n) i ∧ (it (idL n) i).toNat < n := by
  rcases Nat.lt_or_ge i n with g | g
  · rw [idL_it n i g]
    omega
  · have e : it (idL n) i = 0 := by simp [idL, it, List.getD_eq_getElem?_getD, Nat.not_lt.2 g]
    rw [e]
    omega
/-- The number by which the elements are sorted. -/
def negB (x : Cd) (v : Int) : Int := -(it x.els v.toNat).base
theorem it_map (l : List Int) (d : Array Nat) (i : Nat) (h : i < d.size) : it (d.toList.map (it l)) i = it l d[i]! := by
  rw [getElem!_pos d i h]
  simp [it, List.getD_eq_getElem?_getD, h]
theorem perm_mem {n : Nat} {d : Array Nat} (h : PermIn 0 n (Array.range n) d) (hs : d.size = n) (k : Nat) (hk : k < n) : ∃ i, i < d.size ∧ d[i]! = k := by
  have hp : d.toList.Perm (Array.range n).toList := by
    have := h.2.2
    rwa [Array.extract_eq_self_of_le (by omega), Array.extract_eq_self_of_le (by simp)] at this
  have hm : k ∈ d.toList := hp.mem_iff.2 (by simpa using hk)
  obtain ⟨i, hi, e⟩ := List.getElem_of_mem hm
  have hi' : i < d.size := by simpa using hi
  exact ⟨i, hi', by rw [getElem!_pos d i hi']; simpa using e⟩
theorem perm_lt {n : Nat} {d : Array Nat} (h : PermIn 0 n (Array.range n) d) (hs : d.size = n) (i : Nat) (hi : i < n) : d[i]! < n :=
  permIn_all (Array.range n) d 0 n (fun v => v < n) (by simp) h (fun q _ hq => by rw [range_get n q hq]; exact hq) i (Nat.zero_le _) hi
theorem falls_of {x : Cd} {d : Array Nat} (S : SrtOf (negB x) (idL x.els.length) d) : Falls x (d.toList.map (it (idL x.els.length))) := by
  have hs : d.size = x.els.length := S.sz.trans (idL_len _)
  have hp : PermIn 0 x.els.length (Array.range x.els.length) d := by have := S.pm; rwa [idL_len] at this
  have hg : ∀ i, i < x.els.length → it (d.toList.map (it (idL x.els.length))) i = (d[i]! : Int) := fun i hi => by
    rw [it_map _ _ _ (by omega), idL_it _ _ (perm_lt hp hs i hi)]
  refine ⟨by simp [hs], fun i hi => ?_, fun k hk => ?_, fun i j hij hj => ?_⟩
  · have hi' : i < x.els.length := by simpa [hs] using hi
    rw [hg i hi']
    have := perm_lt hp hs i hi'
    omega
  · obtain ⟨i, hi, e⟩ := perm_mem hp hs k hk
    exact ⟨i, by simpa using hi, by rw [hg i (by omega), e]⟩
  · have hj' : j < x.els.length := by simpa [hs] using hj
    rw [hg i (by omega), hg j hj']
    have h1 := S.srt i j (Nat.zero_le _) hij (by rw [idL_len]; exact hj')
    have p1 := perm_lt hp hs i (by omega)
    have p2 := perm_lt hp hs j hj'
    unfold Lx negB at h1
    simp only [idL_it _ _ p1, idL_it _ _ p2] at h1
    omega
theorem elG_any (b o c p : Nat) (x : Cd) (v : Int) (W : World) (h0 : W.cell? ⟨p, 0, none⟩ = some (.slice (some ⟨b, o, none⟩) x.els.length c)) (hv0 : 0 ≤ v) (hv1 : v.toNat < x.els.length) (hel : ElAt W b (o + v.toNat * 4) (it x.els v.toNat)) (hb : 1 ≤ (it x.els v.toNat).base ∧ (it x.els v.toNat).base ≤ 2000) :
    Calls Tryd.prog 59 (#[.int .i64 v] ++ #[.pointer (some ⟨p, 0, none⟩)]) W fun e w' => e = .returned (.int .i64 (negB x v)) ∧ w' = W := by
  show Calls Tryd.prog 59 #[.int .i64 v, .pointer (some ⟨p, 0, none⟩)] W _
  obtain ⟨n, rfl⟩ : ∃ n : Nat, v = (n : Int) := ⟨v.toNat, by omega⟩
  have e : (n : Int).toNat = n := rfl
  unfold negB
  rw [e] at hv1 hel hb ⊢
  have c3 := hel.c3
  have r1 : IntKind.i64.wrap (-(it x.els n).base) = -(it x.els n).base := IntWalk.i64_in _ (by omega)
  clear hel e hv0
  go_enter Tryd.func59, Tryd.ntmps59
  go_wp2
  go_ret
  exact ⟨rfl, rfl⟩

set_option maxHeartbeats 4000000 in
set_option maxRecDepth 100000 in
theorem elementsFromGreatest_any (A L : Option Addr) (c d : Nat) (x : Cd) (w : World) (hr : CdAt w A L x) (hok : CdOk x) :
    Calls Tryd.prog 33 #[x.val A c L d] w fun e w' => (∃ g cap l, e = .returned (.slice (some ⟨g, 0, none⟩) x.els.length cap) ∧ Falls x l ∧ OwnAt w' g 0 l ∧ w.heap.size ≤ g ∧ g < w'.heap.size) ∧ Below w.heap.size w w' := by
  obtain ⟨W, hW, hB⟩ := boxed 31 w A c L d x
  have HB := Lib.hid hB
  have HX := Lib.hid hB.at_
  have HR := Lib.hid (hr.below hB.below)
  have HK := Lib.hid hok
  have hlo := hok.els.lo
  have hhi := hok.els.hi
  clear hr hok hB
  obtain ⟨b, o, rfl, hbl, hce⟩ := HR.out.els.el (by omega)
  have HEL := Lib.hid hce
  clear hce
  unfold boxCd at hW
  unfold Cd.val
  obtain ⟨i0, hi, hz0, hz1, hz2⟩ := info_parts Tryd.infoInt
  have HZ := Lib.hid (made_flat (α := Int) #[.int .i64 0] 0 x.els.length rfl (by decide))
  have eG : ∀ args w, (callFunc 59 args).run Tryd.prog w = .ok (.enter 59 args) w := enters_of Tryd.func59 (by kernel_rfl) rfl
  have HEG := Lib.hid eG
  clear eG
  obtain ⟨x0, x1, x2, x3, x4, x5⟩ := HX.out.box
  rw [hW] at x0 x1 x2 x3 x4 x5
  have HWZ := Lib.hid HB.out.size
  go_enter Tryd.func33, Tryd.ntmps33
  go_wp2_with (at_make; rw [← hW]; refine wpList_make_full _ rfl (.tmp 7) (.tmp 7) 23 rfl W.heap.size 3 i0 (.int .i64 0) 1 Tryd.underlying23 hi hz0 hz1 .i64 .i64 _ _ x.els.length rfl rfl rfl rfl (by rw [hz2]; omega) (by unfold maxLen; omega) (Nat.le_refl _) ?_; intro w1 hown hgrow)
  have HW := Lib.hid (show OwnAt w1 (w.heap.size + 1) 0 (List.replicate x.els.length (0 : Int)) from HWZ.out ▸ own_of_row (α := Int) (cap := x.els.length) (e := 3) (base := W.heap.size) _ (by rw [← HZ.out, List.length_replicate]; exact hown))
  have hb1 : Below W.heap.size W w1 := (Below.refl _ _).grown hgrow (Nat.le_refl _) (fun k e => by cases e)
  have hs1 : w.heap.size + 1 < w1.heap.size := by have h := (hown.lt W.heap.size rfl).2; rwa [HWZ.out] at h
  have HB1 := Lib.hid hb1
  clear hown hgrow hb1 hW x0 x1 x2 x3 x4 x5
  go_wp2
  go_loopw [11] (fun i wr => ∃ (k : Nat) (ys : List Int), k ≤ x.els.length ∧ i = .int .i64 k ∧ ys.length = x.els.length ∧ Hid (∀ i, i < k → it ys i = (i : Int)) ∧ Hid (OwnAt wr (w.heap.size + 1) 0 ys) ∧ w.heap.size + 1 < wr.heap.size ∧ Hid (Below W.heap.size W wr)) (fun i _ => x.els.length - (intOf i).toNat)
  case atStart => exact ⟨0, _, Nat.zero_le _, rfl, by rw [List.length_replicate], Lib.hid (fun i hi => absurd hi (by omega)), HW, hs1, HB1⟩
  case round =>
    obtain ⟨k, ys, hk, rfl, hy, HI, HO, hs, HBR⟩ := hrel
    by_cases hlt : k < x.els.length
    · obtain ⟨d0, f0⟩ := HO.out.int0 k (by omega)
      have HP := Lib.hid (HO.out.putInt0 k (k : Int) (by omega))
      go_wp2
      go_roundw
      case rel => exact ⟨k + 1, _, by omega, by go_num, by rw [List.length_set]; exact hy, Lib.hid (fun i hi => by
        rw [it_set _ _ _ _ (by omega)]
        by_cases e : i = k
        · rw [if_pos e, e]
        · rw [if_neg e]; exact HI.out i (by omega)), HP, by simpa [World.setCell] using hs, Lib.hid (HBR.out.setCell (Nat.le_of_eq HWZ.out) _)⟩
      case measure => simp [intOf]; omega
    · obtain rfl : k = x.els.length := by omega
      obtain rfl : ys = idL x.els.length := it_ext _ _ (by rw [hy, idL_len]) (fun i hi => by rw [HI.out i (by omega), idL_it _ _ (by omega)])
      have HXR := Lib.hid (HX.out.next HBR.out)
      have HC := Lib.hid (show Calls Tryd.prog 58 #[.slice (some ⟨w.heap.size + 1, 0, none⟩) x.els.length x.els.length, .func (.func 59) #[] #[.pointer (some ⟨w.heap.size, 0, none⟩)]] wr fun e w' => ∃ g cap d, e = .returned (.slice (some ⟨g, 0, none⟩) x.els.length cap) ∧ SrtOf (negB x) (idL x.els.length) d ∧ OwnAt w' g 0 (d.toList.map (it (idL x.els.length))) ∧ wr.heap.size ≤ g ∧ g < w'.heap.size ∧ Below wr.heap.size wr w' from by
        have h := sortedBy_any 59 (.pointer (some ⟨w.heap.size, 0, none⟩)) (negB x) (w.heap.size + 1) 0 x.els.length (idL x.els.length) wr HEG.out (by rw [idL_len]; omega) hs (fun i hi => by
          rw [Nat.zero_add]
          exact (HO.out.int0 i hi).1) (fun W' hag i => by
          obtain ⟨h1, h2⟩ := idL_rng x.els.length i (by omega)
          have hel := HEL.out _ h2
          have ag : ∀ a : Addr, a.block < W.heap.size → W'.cell? a = W.cell? a := fun a ha => (hag a (by have h7 := HBR.out.size; omega)).trans (HBR.out.cell (p := a) ha)
          exact elG_any b o c w.heap.size x _ W' ((ag ⟨w.heap.size, 0, none⟩ HB.out.lt).trans HX.out.box.c0) h1 h2 ⟨(ag _ hbl).trans hel.c0, (ag _ hbl).trans hel.c1, (ag _ hbl).trans hel.c2, (ag _ hbl).trans hel.c3⟩ (HK.out.els.el _ h2).base)
        rw [idL_len] at h
        exact h)
      go_wp2_with (first | (go_at_call 58; (with_reducible refine HC.out.mono ?_); rintro e w9 ⟨g, cap, dd, rfl, k1, k2, k3, k4, k5⟩; have HK1 := Lib.hid k1; have HK2 := Lib.hid k2; have HB5 := Lib.hid k5; clear k1 k2 k5))
      go_ret
      have h8 := HB.out.below.size
      have h9 := HBR.out.size
      exact ⟨⟨g, cap, _, rfl, falls_of HK1.out, HK2.out, by omega, k4⟩, Below_next (Below_next HB.out.below HBR.out) HB5.out⟩
end Go.Proofs.YtocjkhfghldnnaaDoor

namespace Go.Proofs.YtocjkhfghldnnaaDoor
open Go.ChangeShapes Go.WideShapes Go.ChangeAt Go.RowKit Go.Lib Go.Sort Go.Proofs
set_option linter.unusedVariables false

/-- The names of the best single programme of n items are asked, and there is one. -/
def BnOk (x : Cd) (n : Int) : Prop := CdOk x ∧ 1 ≤ n ∧ n ≤ ((chTo x 14).out.length : Int)
noncomputable def bnF (x : Cd) (n : Int) : List Int := @ite _ (BnOk x n) (Classical.propDecidable _) ((chTo x n.toNat).out.mergeSort fun a b => decide (a ≤ b)) []
theorem bnF_yes {x : Cd} {n : Int} (h : BnOk x n) : bnF x n = (chTo x n.toNat).out.mergeSort fun a b => decide (a ≤ b) := @if_pos _ (Classical.propDecidable _) h _ _ _
theorem bnF_no {x : Cd} {n : Int} (h : ¬ BnOk x n) : bnF x n = [] := @if_neg _ (Classical.propDecidable _) h _ _ _
theorem bnOk_le {x : Cd} {n : Int} (h : BnOk x n) : n.toNat ≤ 14 ∧ 1 ≤ n.toNat := by
  have := chTo_len x 14
  have h2 := h.2
  omega
theorem bn_len {x : Cd} {n : Int} (h : BnOk x n) : (chTo x n.toNat).out.length = n.toNat := by
  have h1 := chTo_count x (cdOk_fams h.1) 14
  have h2 := chTo_count x (cdOk_fams h.1) n.toNat
  have h3 := h.2
  omega
theorem bnF_len (x : Cd) (n : Int) : (bnF x n).length ≤ 1048576 := by
  by_cases h : BnOk x n
  · have := bn_len h
    have := bnOk_le h
    rw [bnF_yes h, List.length_mergeSort]
    omega
  · rw [bnF_no h]
    simp
theorem bn_no {x : Cd} {n : Int} (h : ¬ BnOk x n) : bnF x n = [] ∧ pB (BnOk x n) = false := ⟨bnF_no h, pB_no h⟩
theorem holds_own {w : World} {g : Nat} {xs : List Int} (h : OwnAt w g 0 xs) : Holds (Value.int .i64) w g 0 xs.toArray := fun j hj => by
  have hj' : j < xs.length := by simpa using hj
  have h0 := h.int0 j hj'
  rw [Nat.zero_add]
  have e : xs.toArray[j]! = it xs j := by
    rw [getElem!_pos _ j hj]
    simp [it, List.getD_eq_getElem?_getD, hj']
  rw [e]
  exact ⟨h0.1, h0.2⟩
/-- A row of one's own behind the library's sort. -/
theorem own_sorted {w : World} {g n : Nat} {os : Array Obj} {xs ys : List Int} (h : OwnAt w g 0 xs) (hg : g < w.heap.size) (hl : ys.length = xs.length) : OwnAt (grow (putRow (Value.int .i64) (Sort.ahead w n) g 0 ys.toArray) os) g 0 ys := by
  have hH : Holds (Value.int .i64) (Sort.ahead w n) g 0 xs.toArray := fun j hj => by
    have hj' : j < xs.length := by simpa using hj
    have h0 := h.int0 j hj'
    rw [Nat.zero_add]
    have e : xs.toArray[j]! = it xs j := by
      rw [getElem!_pos _ j hj]
      simp [it, List.getD_eq_getElem?_getD, hj']
    rw [e]
    exact ⟨h0.1, h0.2⟩
  have hy : ∀ j, j < ys.length → ys.toArray[j]! = it ys j := fun j hj => by
    rw [getElem!_pos _ j (by simpa using hj)]
    simp [it, List.getD_eq_getElem?_getD, hj]
  refine ⟨fun i hi => ?_, fun i j hi hj => ?_⟩
  · intro k v hk
    match k, hk with
    | 0, hk =>
      have hv : v = Value.int .i64 (it ys i) := (Option.some.inj hk).symm
      have e2 : (0 + i * Flat.sz Int + 0 : Nat) = 0 + i := by show 0 + i * 1 + 0 = 0 + i; omega
      rw [e2, Sort.cell?_grow _ _ _ (by simpa using hg), Sort.cell?_putRow (Value.int .i64) (Sort.ahead w n) g 0 xs.toArray ys.toArray hH (by simp [hl]) i (by simpa using hi), hy i hi, hv]
  · have hj' : j = 0 := by have : j < 1 := hj; omega
    subst hj'
    have e2 : (0 + i * Flat.sz Int + 0 : Nat) = 0 + i := by show 0 + i * 1 + 0 = 0 + i; omega
    have h0 := (hH i (by simpa using (hl ▸ hi : i < xs.length))).2
    rw [e2, Sort.frozen?_grow _ _ _ (by simpa using hg), Sort.frozen?_putRow]
    exact h0
theorem sorted_below {w : World} {g n : Nat} {os : Array Obj} {ys : List Int} (hg : g < w.heap.size) : Below g w (grow (putRow (Value.int .i64) (Sort.ahead w n) g 0 ys.toArray) os) := by
  refine ⟨rfl, rfl, rfl, by simp, fun k hk => ?_⟩
  rw [Sort.heap_grow_old _ _ (by simp; omega)]
  unfold Sort.putRow
  rw [heap_mapBlock _ _ _ _ (by omega)]
  rfl

set_option maxHeartbeats 8000000 in
set_option maxRecDepth 100000 in
theorem iBestNames_any (A L : Option Addr) (c d : Nat) (x : Cd) (n : Int) (w : World) (hr : CdAt w A L x) (hl : CdFits x) (ht : Tab w) :
    Calls Tryd.prog 13 #[x.val A c L d, .int .i64 n] w fun e w' => (∃ R d, e = .returned (.tuple #[.slice R (bnF x n).length d, .bool (pB (BnOk x n))]) ∧ Owned (fun i => w.heap.size ≤ i ∧ i < w'.heap.size) w' R (bnF x n)) ∧ Below w.heap.size w w' := by
  obtain ⟨W, hW, hB⟩ := boxed 31 w A c L d x
  have HB := Lib.hid hB
  have HX := Lib.hid hB.at_
  have HR := Lib.hid (hr.below hB.below)
  have HT := Lib.hid (ht.next hB.below)
  have HL := Lib.hid hl
  clear hr hl hB ht
  unfold boxCd at hW
  unfold Cd.val
  go_enter Tryd.func13, Tryd.ntmps13
  go_wp2_with fail
  rw [← hW]
  clear hW
  refine (iMostSingles_any A L c d x W HR.out HL.out HT.out).mono ?_
  rintro e w1 ⟨rfl, hb1⟩
  have HB1 := Lib.hid (Below_next HB.out.below hb1)
  have HX1 := Lib.hid (HX.out.next hb1)
  have HR1 := Lib.hid (HR.out.below hb1)
  clear hb1 HT
  by_cases hok : CdOk x
  rotate_left
  · have HN := Lib.hid (bn_no (x := x) (n := n) (fun h => hok h.1))
    rw [show msV x = _ from pnV_no hok]
    go_wp2
    go_returns
    rw [HN.out.1, HN.out.2]
    exact ⟨⟨none, 0, rfl, Owned.nil _ _ _⟩, HB1.out⟩
  rw [show msV x = _ from pnV_yes hok]
  rcases Int.lt_or_le n 1 with hn1 | hn1
  · have HN := Lib.hid (bn_no (x := x) (n := n) (fun h => by have := h.2; omega))
    go_wp2
    go_returns
    rw [HN.out.1, HN.out.2]
    exact ⟨⟨none, 0, rfl, Owned.nil _ _ _⟩, HB1.out⟩
  rcases Int.lt_or_le ((chTo x 14).out.length : Int) n with hn2 | hn2
  · have HN := Lib.hid (bn_no (x := x) (n := n) (fun h => by have := h.2; omega))
    go_wp2
    go_returns
    rw [HN.out.1, HN.out.2]
    exact ⟨⟨none, 0, rfl, Owned.nil _ _ _⟩, HB1.out⟩
  have HOK := Lib.hid (show BnOk x n from ⟨hok, hn1, hn2⟩)
  have HK := Lib.hid hok
  clear hok
  obtain ⟨N, rfl⟩ : ∃ N : Nat, n = (N : Int) := ⟨n.toNat, by omega⟩
  have hN1 := bnOk_le HOK.out
  have hN : N ≤ 14 := hN1.1
  have hNp : 1 ≤ N := hN1.2
  have HLN := Lib.hid (show (chTo x N).out.length = N from bn_len HOK.out)
  clear hN1
  obtain ⟨b, o, rfl, hbl, hce⟩ := HR1.out.els.el (by have := HK.out.els.lo; omega)
  obtain ⟨bL, oL, rfl, hbL, hcL⟩ := HR1.out.lims.int (by rw [HK.out.lims.len]; omega)
  have HEL := Lib.hid hce
  have HCL := Lib.hid hcL
  clear hce hcL
  obtain ⟨i0, hi, hz0, hz1, hz2⟩ := info_parts Tryd.infoInt
  have HZ := Lib.hid (And.intro hi (And.intro hz0 (And.intro hz1 hz2)))
  clear hi hz0 hz1 hz2
  obtain ⟨x0, x1, x2, x3, x4, x5⟩ := HX1.out.box
  go_wp2_with fail
  clear x0 x1 x2 x3 x4 x5
  refine (cloneL_any bL oL d x.lims w1 HCL.out (by rw [HK.out.lims.len]; omega)).mono ?_
  rintro e w2 ⟨gr, cr, rfl, hor, hg1, hg2, hb2⟩
  have HB12 := Lib.hid hb2
  have HR2 := Lib.hid (HR1.out.below hb2)
  have HLL := Lib.hid HK.out.lims.len
  have hhi := HK.out.els.hi
  rw [HLL.out]
  obtain ⟨x0, x1, x2, x3, x4, x5⟩ := (HX1.out.next hb2).box
  clear hb2
  go_wp2_with fail
  clear x0 x1 x2 x3 x4 x5
  refine (elementsFromGreatest_any _ _ _ _ x w2 HR2.out HK.out).mono ?_
  rintro e w3 ⟨⟨gl, cl, l, rfl, hf, hol, hl1, hl2⟩, hb3⟩
  have HFL := Lib.hid hf
  have HOL := Lib.hid hol
  have HOR := Lib.hid (hor.block (hb3.block gr hg2))
  have HB3 := Lib.hid (HB12.out.trans (hb3.mono HB12.out.size))
  have hgr3 : gr < w3.heap.size := by omega
  clear hf hol hor hb3
  go_wp2
  go_loopw [8, 35] (fun v kv wr => ∃ k : Nat, k ≤ x.els.length ∧ kv = .int .i64 k ∧ Hid (wr.ownsRow w3.heap.size 3 1 v (snTo x N l k).out.length ((snTo x N l k).out.map (Value.int .i64))) ∧ Hid (OwnAt wr gr 0 (snTo x N l k).room) ∧ Hid (OwnAt wr gl 0 l) ∧ w3.heap.size ≤ wr.heap.size ∧ Hid (Below w1.heap.size w1 wr)) (fun _ kv _ => x.els.length - (intOf kv).toNat)
  case atStart => exact ⟨0, Nat.zero_le _, rfl, Lib.hid (World.ownsRow_nil w3 _ _ _), HOR, HOL, Nat.le_refl _, HB3⟩
  case round =>
    obtain ⟨k, hk, rfl, HO, HRM, HLR, hsz, HBR⟩ := hrel
    obtain ⟨A1, c1, rfl, hll1⟩ := row_lst HO.out
    clear hll1
    by_cases hlt : k < x.els.length
    · obtain ⟨j, hj⟩ := snTo_is x N l HFL.out k (by rw [HFL.out.len]; exact hk)
      have hcn := chTo_cnts x (cdOk_fams HK.out) j
      have hol1 := chTo_len x j
      rw [← hj.eq] at hcn hol1
      have hjle := hj.le
      clear hj
      have hlk := HFL.out.rng k (by rw [HFL.out.len]; exact hlt)
      obtain ⟨m, hm⟩ : ∃ m : Nat, it l k = (m : Int) := ⟨(it l k).toNat, by omega⟩
      have hml : m < x.els.length := by omega
      obtain ⟨d0, d1⟩ := HLR.out.int0 k (by rw [HFL.out.len]; exact hlt)
      rw [hm] at d0
      have hfam := (HK.out.els.el m hml).fam
      obtain ⟨f0, hf0⟩ : ∃ f0 : Nat, (it x.els m).fam = (f0 : Int) := ⟨(it x.els m).fam.toNat, by omega⟩
      have hf5 : f0 < 5 := by omega
      have c1' := (HBR.out.cell (p := ⟨b, o + m * 4 + 1, none⟩) hbl).trans (HEL.out m hml).c1
      rw [hf0] at c1'
      have hX0 := (HX1.out.next HBR.out).box.c0
      have hrl := hcn.len
      obtain ⟨r0, rf⟩ := HRM.out.int0 f0 (by omega)
      have hv1 := hcn.nn f0 hf5
      have hv2 := hcn.room f0 hf5
      have hv3 := (HK.out.lims.lim f0 (by rw [HLL.out]; omega)).2
      have hv4 : it (snTo x N l k).room f0 ≤ 9 := by omega
      have HF0 := Lib.hid (show (it x.els (it l k).toNat).fam.toNat = f0 by rw [hm, show ((m : Int)).toNat = m from rfl]; omega)
      have HMM := Lib.hid hm
      have HRL := Lib.hid hrl
      have hfl : (f0 : Int) < 5 := by omega
      clear hcn hfam hf0 hlk hm hv2 hrl d1
      rcases Nat.lt_or_ge (snTo x N l k).out.length N with hln | hln
      rotate_left
      · have HST := Lib.hid (show snTo x N l (k + 1) = snTo x N l k from snStep_no (fun h => by have := h.1; omega))
        go_wp2
        go_roundw
        case rel => exact ⟨k + 1, by omega, by go_num, by rw [HST.out]; exact HO, by rw [HST.out]; exact HRM, HLR, hsz, HBR⟩
        case measure => simp [intOf]; omega
      rcases Int.lt_or_le 0 (it (snTo x N l k).room f0) with hrm | hrm
      rotate_left
      · have HST := Lib.hid (show snTo x N l (k + 1) = snTo x N l k from snStep_no (fun h => by have h2 := h.2; rw [HF0.out] at h2; omega))
        go_wp2
        go_roundw
        case rel => exact ⟨k + 1, by omega, by go_num, by rw [HST.out]; exact HO, by rw [HST.out]; exact HRM, HLR, hsz, HBR⟩
        case measure => simp [intOf]; omega
      have HST := Lib.hid (show snTo x N l (k + 1) = ⟨(snTo x N l k).out ++ [(m : Int)], (snTo x N l k).room.set f0 (it (snTo x N l k).room f0 - 1)⟩ from by
        have h := snStep_yes (x := x) (n := N) (s := snTo x N l k) (i := it l k) hln (by rw [HF0.out]; exact hrm)
        rw [HF0.out, HMM.out] at h
        exact (show snTo x N l (k + 1) = snStep x N (snTo x N l k) (it l k) from rfl).trans (by rw [HMM.out]; exact h))
      go_upto_region 12 with fail
      have HO2 := Lib.hid (own_heap (w' := wr.setCell ⟨gr, f0, none⟩ (.int .i64 (it (snTo x N l k).room f0 - 1))) HO.out (fun q hq => Below.heap_setCell _ _ _ _ (fun e => by have := (HO.out.lt q hq).1; simp at e; omega)))
      have HRM2 := Lib.hid (HRM.out.putInt0 f0 (it (snTo x N l k).room f0 - 1) (by rw [HRL.out]; exact hf5))
      have HLR2 := Lib.hid (HLR.out.block (w' := wr.setCell ⟨gr, f0, none⟩ (.int .i64 (it (snTo x N l k).room f0 - 1))) (Below.heap_setCell _ _ _ _ (fun e => by simp at e; omega)))
      have HB2 := Lib.hid (HBR.out.setCell (p := ⟨gr, f0, none⟩) hg1 (.int .i64 (it (snTo x N l k).room f0 - 1)))
      have hsz2 : w3.heap.size ≤ (wr.setCell ⟨gr, f0, none⟩ (.int .i64 (it (snTo x N l k).room f0 - 1))).heap.size := by simpa [World.setCell] using hsz
      clear r0 rf
      generalize wr.setCell ⟨gr, f0, none⟩ (.int .i64 (it (snTo x N l k).room f0 - 1)) = ws at HO2 HRM2 HLR2 HB2 hsz2 ⊢
      clear HO HRM HLR HBR d0 c1' hX0 hsz
      have HRA := Lib.hid (HRM2.out.block ((below_alloc ws (.cells #[.int .i64 (m : Int)] 3)).block gr (by omega)))
      have HLA := Lib.hid (HLR2.out.block ((below_alloc ws (.cells #[.int .i64 (m : Int)] 3)).block gl (by omega)))
      go_wp2_with (at_builtin; refine wpList_append_src _ rfl (.tmp 62) (.tmp 64) 23 rfl w3.heap.size 3 i0 (.int .i64 0) 8 Tryd.underlying23 HZ.out.1 HZ.out.2.1 HZ.out.2.2.1 HZ.out.2.2.2 rfl _ (snTo x N l k).out.length ((snTo x N l k).out.map (Value.int .i64)) rfl (HO2.out.alloc _) (some ⟨ws.heap.size, 0, none⟩) 1 1 [.int .i64 (m : Int)] rfl rfl (fun _ => ⟨_, rfl, one_news (by simp)⟩) (by intro u hu; simp at hu; subst hu; rfl) (by unfold maxLen; omega) (by omega) (by simp; omega) ?_; intro v1 w5 hown1 hgrow1 hat1; obtain ⟨A2, c2, rfl, hown2⟩ := row_push hown1; have HO5 := Lib.hid hown2; clear hown2; have HS5 := Lib.hid (show w3.heap.size ≤ w5.heap.size from Nat.le_trans hsz2 (Nat.le_trans (by simp) hgrow1.size)); have HB5 := Lib.hid (show Below w1.heap.size w1 w5 from Below.grown (HB2.out.alloc HB2.out.size _) hgrow1 (by simp; have := HB2.out.size; omega) (fun kk e => by have := (HO2.out.lt kk e).1; omega)); have HR5 := Lib.hid (HRA.out.block (hgrow1.block gr (by simp; omega) (fun e => by have := (HO2.out.lt gr (by first | exact e | exact e.symm)).1; omega))); have HL5 := Lib.hid (HLA.out.block (hgrow1.block gl (by simp; omega) (fun e => by have := (HO2.out.lt gl (by first | exact e | exact e.symm)).1; omega))); clear hown1 hgrow1 hat1)
      go_roundw
      case rel => exact ⟨k + 1, by omega, by go_num, by rw [HST.out]; exact HO5, by rw [HST.out]; exact HR5, HL5, HS5.out, HB5⟩
      case measure => simp [intOf]; omega
    · obtain rfl : k = x.els.length := by omega
      have HALL : snTo x N l x.els.length = chTo x N := by
        rw [← HFL.out.len]
        exact snTo_all x N l HFL.out
      rw [HALL] at HO ⊢
      clear HALL HRM HLR
      obtain ⟨g, cap, hv, hgB, hgl⟩ := row_pos HO.out (by rw [HLN.out]; omega)
      injection hv with e1 e2 e3
      subst e1
      have HOA := Lib.hid (own_of_row (α := Int) (cap := c1) (e := 3) (base := w3.heap.size) (chTo x N).out (by rw [flatMap_intX]; exact HO.out))
      have HSC := Lib.hid (Tryd.slices_Sort_int g 0 c1 (chTo x N).out wr (holds_own HOA.out) hgl (by rw [HLN.out]; omega))
      have HV1 := Lib.hid (show bnF x (N : Int) = (chTo x N).out.mergeSort fun a b => decide (a ≤ b) from bnF_yes HOK.out)
      have HV2 := Lib.hid (show pB (BnOk x (N : Int)) = true from pB_yes HOK.out)
      clear e2 e3
      go_wp2_with fail
      refine HSC.out.mono ?_
      rintro e w7 ⟨rfl, nn, os, hw7⟩
      have HOW := Lib.hid (own_sorted (n := nn) (os := os) (ys := (chTo x N).out.mergeSort fun a b => decide (a ≤ b)) HOA.out hgl (List.length_mergeSort _))
      have HBW := Lib.hid (sorted_below (n := nn) (os := os) (ys := (chTo x N).out.mergeSort fun a b => decide (a ≤ b)) hgl)
      rw [← hw7] at HOW HBW
      clear hw7
      go_wp2
      go_returns
      rw [HV1.out, HV2.out, List.length_mergeSort]
      have h5 := HB1.out.size
      have h6 := HBW.out.size
      have h7 := HBR.out.size
      exact ⟨⟨some ⟨g, 0, none⟩, c1, rfl, fun _ => ⟨g, 0, rfl, ⟨by omega, by omega⟩, by omega, HOW.out⟩⟩, (Below_next HB1.out HBR.out).trans (HBW.out.mono (by omega))⟩
end Go.Proofs.YtocjkhfghldnnaaDoor

namespace Go.Proofs.YtocjkhfghldnnaaDoor
open Go.ChangeShapes Go.WideShapes Go.ChangeAt Go.RowKit Go.PlainAid Go.Sort
set_option linter.unusedVariables false

/-- A rising list. -/
def Ris (l : List Int) : Prop := l.Pairwise (· < ·)
theorem mem_it {l : List Int} {v : Int} (h : v ∈ l) : ∃ q, q < l.length ∧ it l q = v := by
  obtain ⟨q, hq, e⟩ := List.getElem_of_mem h
  exact ⟨q, hq, by simp [it, List.getD_eq_getElem?_getD, hq, e]⟩
theorem ris_it {l : List Int} (h : Ris l) {p q : Nat} (h1 : p < q) (h2 : q < l.length) : it l p < it l q := by
  have := List.pairwise_iff_getElem.1 h p q (by omega) h2 h1
  simpa [it, List.getD_eq_getElem?_getD, h2, show p < l.length by omega] using this
theorem put_ris {l : List Int} {u : Int} {i : Nat} (h : Ris l) (h1 : ∀ q, q < i → it l q < u) (h2 : i < l.length → u < it l i) : Ris (l.take i ++ u :: l.drop i) := by
  have ht : ∀ v, v ∈ l.take i → v < u := fun v hv => by
    obtain ⟨q, hq, e⟩ := mem_it hv
    rw [List.length_take] at hq
    rw [← e]
    have : it (l.take i) q = it l q := by simp [it, List.getD_eq_getElem?_getD, show q < i by omega]
    rw [this]
    exact h1 q (by omega)
  have hd : ∀ v, v ∈ l.drop i → u < v := fun v hv => by
    obtain ⟨q, hq, e⟩ := mem_it hv
    rw [List.length_drop] at hq
    rw [← e]
    have : it (l.drop i) q = it l (i + q) := by simp [it, List.getD_eq_getElem?_getD]
    rw [this]
    have h3 := h2 (by omega)
    by_cases e : q = 0
    · subst e
      exact h3
    · have := ris_it h (show i < i + q by omega) (by omega)
      omega
  unfold Ris at h ⊢
  rw [List.pairwise_append, List.pairwise_cons]
  exact ⟨h.sublist (List.take_sublist _ _), ⟨hd, h.sublist (List.drop_sublist _ _)⟩, fun a ha b hb => by
    rcases List.mem_cons.1 hb with e | e
    · rw [e]
      exact ht a ha
    · have := ht a ha
      have := hd b e
      omega⟩
theorem put_perm (l : List Int) (u : Int) (i : Nat) : (l.take i ++ u :: l.drop i).Perm (u :: l) := by
  have h := List.perm_middle (a := u) (l₁ := l.take i) (l₂ := l.drop i)
  rwa [List.take_append_drop] at h
theorem ris_merge {r out : List Int} (h : Ris r) (hp : r.Perm out) : r = out.mergeSort fun a b => decide (a ≤ b) := by
  refine List.Perm.eq_of_pairwise (le := fun a b => a ≤ b) (fun a b _ _ h1 h2 => by omega) (h.imp (fun h => Int.le_of_lt h)) ?_ (hp.trans (List.mergeSort_perm _ _).symm)
  have := List.pairwise_mergeSort (le := fun a b : Int => decide (a ≤ b)) (fun a b c h1 h2 => by simp at *; omega) (fun a b => by simp; omega) out
  exact this.imp (fun h => of_decide_eq_true h)
theorem lst_drop {w : World} {B b o : Nat} {xs : List Int} (h : Lst w B (some ⟨b, o, none⟩) xs) (k : Nat) : Lst w B (some ⟨b, o + k, none⟩) (xs.drop k) := Lst.of_int fun hp => by
  rw [List.length_drop] at hp
  obtain ⟨b', o', e, hb, hc⟩ := h.int (by omega)
  injection e with e
  injection e with e1 e2
  subst e1
  subst e2
  refine ⟨b, o + k, rfl, hb, fun i hi => ?_⟩
  rw [List.length_drop] at hi
  have h2 := hc (k + i) (by omega)
  rw [show o + k + i = o + (k + i) by omega, h2]
  simp [it, List.getD_eq_getElem?_getD]
theorem lst_drop0 {w : World} {B b : Nat} {xs : List Int} (h : Lst w B (some ⟨b, 0, none⟩) xs) (k : Nat) : Lst w B (some ⟨b, k, none⟩) (xs.drop k) := by
  have h2 := lst_drop h k
  rwa [Nat.zero_add] at h2

set_option maxHeartbeats 8000000 in
set_option maxRecDepth 100000 in
theorem l1Put_any (B : Nat) (A : Option Addr) (c : Nat) (l : List Int) (u : Int) (w : World) (hr : Lst w w.heap.size A l) (hA : A = none → c = 0 ∧ l = []) (hcap : l.length ≤ c ∧ c ≤ 9223372036854775807) (ho0 : ∀ b o, A = some ⟨b, o, none⟩ → True) (hA2 : ∀ a, A = some a → ∃ b, a = ⟨b, 0, none⟩) (hl : l.length ≤ 1000) (hs : Ris l) (hu : ¬ u ∈ l) :
    Calls Tryd.prog 57 #[.slice A l.length c, .int .i64 u] w fun e w' => (∃ r v, e = .returned v ∧ w'.ownsRow w.heap.size 3 1 v r.length (r.map (Value.int .i64)) ∧ Ris r ∧ r.Perm (u :: l)) ∧ Below w.heap.size w w' := by
  have HR := Lib.hid hr
  have HS := Lib.hid hs
  have HU := Lib.hid hu
  obtain ⟨i0, hi, hz0, hz1, hz2⟩ := info_parts Tryd.infoInt
  have HZ := Lib.hid (And.intro hi (And.intro hz0 (And.intro hz1 hz2)))
  clear hi hz0 hz1 hz2 hr hs hu ho0
  rcases A with _ | a
  · obtain ⟨rfl, rfl⟩ := hA rfl
    go_enter Tryd.func57, Tryd.ntmps57
    go_wp2
    go_loopw [5] (fun v wr => v = .int .i64 0 ∧ wr = w) (fun _ _ => 0)
    case atStart => exact ⟨rfl, rfl⟩
    case round =>
      obtain ⟨rfl, rfl⟩ := hrel
      go_wp2_with (first
        | (at_builtin; refine wpList_append_src _ rfl (.tmp 34) (.tmp 37) 23 rfl wr.heap.size 3 i0 (.int .i64 0) 8 Tryd.underlying23 HZ.out.1 HZ.out.2.1 HZ.out.2.2.1 HZ.out.2.2.2 rfl (.slice (some ⟨wr.heap.size, 0, none⟩) 0 0) 0 [] rfl (owns_emptyN _ _ _ _ _ (Nat.le_refl _) (heap_at_new _ _ _ rfl)) none 0 0 ([] : List Value) rfl (by simp <;> omega) (fun h => absurd h (by simp)) (by simp) (by unfold maxLen; omega) (by omega) (by simp) ?_; intro v1 w1 hown1 hgrow1 hat1; have HO1 := Lib.hid hown1; have HB1 := Lib.hid (Below.grown (below_alloc _ _) hgrow1 (by simp) (fun kk e => by simp [Value.ownBlock] at e; omega)); clear hown1 hgrow1 hat1)
        | (at_builtin; refine wpList_append_src _ rfl (.tmp 39) (.tmp 41) 23 rfl wr.heap.size 3 i0 (.int .i64 0) 8 Tryd.underlying23 HZ.out.1 HZ.out.2.1 HZ.out.2.2.1 HZ.out.2.2.2 rfl v1 (0 + 0) ([] ++ ([] : List Value)) rfl (HO1.out.alloc _) (some ⟨w1.heap.size, 0, none⟩) 1 1 [.int .i64 u] rfl rfl (fun _ => ⟨_, rfl, one_news (by simp)⟩) (by intro y hy; simp at hy; subst hy; rfl) (by unfold maxLen; omega) (by omega) (by simp; have := HB1.out.size; omega) ?_; intro v2 w2 hown2 hgrow2 hat2; have HO2 := Lib.hid hown2; have HB2 := Lib.hid (show Below wr.heap.size wr w2 from Below.grown (HB1.out.alloc HB1.out.size _) hgrow2 (by simp; have := HB1.out.size; omega) (fun kk e => by have := (HO1.out.lt kk e).1; omega)); clear hown2 hgrow2 hat2)
        | (at_builtin; refine wpList_append_src _ rfl (.tmp 43) (.tmp 46) 23 rfl wr.heap.size 3 i0 (.int .i64 0) 8 Tryd.underlying23 HZ.out.1 HZ.out.2.1 HZ.out.2.2.1 HZ.out.2.2.2 rfl v2 (0 + 0 + 1) ([] ++ ([] : List Value) ++ [.int .i64 u]) rfl HO2.out none 0 0 ([] : List Value) rfl (by simp) (fun h => absurd h (by simp)) (by simp) (by unfold maxLen; omega) (by omega) (by have := HB2.out.size; omega) ?_; intro v3 w3 hown3 hgrow3 hat3; have HO3 := Lib.hid hown3; have HB3 := Lib.hid (show Below wr.heap.size wr w3 from Below.grown HB2.out hgrow3 HB2.out.size (fun kk e => (HO2.out.lt kk e).1)); clear hown3 hgrow3 hat3))
      go_ret
      exact ⟨⟨[u], v3, rfl, HO3.out, by simp [Ris], List.Perm.refl _⟩, HB3.out⟩
  · obtain ⟨b, rfl⟩ := hA2 a rfl
    clear hA hA2
    have hc2 := hcap.2
    have hc1 := hcap.1
    clear hcap
    go_enter Tryd.func57, Tryd.ntmps57
    go_wp2
    go_loopw [5] (fun v wr => ∃ i : Nat, i ≤ l.length ∧ v = .int .i64 i ∧ wr = w ∧ Hid (∀ q, q < i → it l q < u)) (fun v _ => l.length - (intOf v).toNat)
    case atStart => exact ⟨0, Nat.zero_le _, rfl, rfl, Lib.hid (fun q hq => absurd hq (by omega))⟩
    case round =>
      obtain ⟨i, hi, rfl, rfl, HQ⟩ := hrel
      by_cases hlt : i < l.length
      · obtain ⟨b', o', e, hbl, hce⟩ := HR.out.int (by omega)
        injection e with e
        injection e with e1 e2
        subst e1
        subst e2
        have c0 := hce i hlt
        rw [Nat.zero_add] at c0
        rcases Int.lt_trichotomy (it l i) u with hc | hc | hc
        · go_wp2
          go_roundw
          case rel => exact ⟨i + 1, by omega, by go_num, trivial, Lib.hid (fun q hq => by
            by_cases e : q = i
            · rw [e]; exact hc
            · exact HQ.out q (by omega))⟩
          case measure => simp [intOf]; omega
        · exact absurd (by rw [← hc]; simp [it, List.getD_eq_getElem?_getD, hlt]) HU.out
        · have hc' : u ≤ it l i := Int.le_of_lt hc
          have HP := Lib.hid (put_ris HS.out HQ.out (fun _ => hc))
          have hne : (it l i == u) = false := by simp; omega
          go_wp2_with (first
            | (at_builtin; refine wpList_append_src _ rfl (.tmp 34) (.tmp 37) 23 rfl wr.heap.size 3 i0 (.int .i64 0) 8 Tryd.underlying23 HZ.out.1 HZ.out.2.1 HZ.out.2.2.1 HZ.out.2.2.2 rfl (.slice (some ⟨wr.heap.size, 0, none⟩) 0 0) 0 [] rfl (owns_emptyN _ _ _ _ _ (Nat.le_refl _) (heap_at_new _ _ _ rfl)) (some ⟨b, 0, none⟩) i c ((l.take i).map (Value.int .i64)) rfl (by simp <;> omega) (fun h => lst_src (lst_take HR.out i) (below_alloc _ _) (by simp; omega)) (int_one _) (by unfold maxLen; omega) (by omega) (by simp) ?_; intro v1 w1 hown1 hgrow1 hat1; have HO1 := Lib.hid hown1; have HB1 := Lib.hid (Below.grown (below_alloc _ _) hgrow1 (by simp) (fun kk e => by simp [Value.ownBlock] at e; omega)); clear hown1 hgrow1 hat1)
            | (at_builtin; refine wpList_append_src _ rfl (.tmp 39) (.tmp 41) 23 rfl wr.heap.size 3 i0 (.int .i64 0) 8 Tryd.underlying23 HZ.out.1 HZ.out.2.1 HZ.out.2.2.1 HZ.out.2.2.2 rfl v1 (0 + i) ([] ++ ((l.take i).map (Value.int .i64))) rfl (HO1.out.alloc _) (some ⟨w1.heap.size, 0, none⟩) 1 1 [.int .i64 u] rfl rfl (fun _ => ⟨_, rfl, one_news (by simp)⟩) (by intro y hy; simp at hy; subst hy; rfl) (by unfold maxLen; omega) (by omega) (by simp; have := HB1.out.size; omega) ?_; intro v2 w2 hown2 hgrow2 hat2; have HO2 := Lib.hid hown2; have HB2 := Lib.hid (show Below wr.heap.size wr w2 from Below.grown (HB1.out.alloc HB1.out.size _) hgrow2 (by simp; have := HB1.out.size; omega) (fun kk e => by have := (HO1.out.lt kk e).1; omega)); clear hown2 hgrow2 hat2)
            | (at_builtin; refine wpList_append_src _ rfl (.tmp 43) (.tmp 46) 23 rfl wr.heap.size 3 i0 (.int .i64 0) 8 Tryd.underlying23 HZ.out.1 HZ.out.2.1 HZ.out.2.2.1 HZ.out.2.2.2 rfl v2 (0 + i + 1) ([] ++ ((l.take i).map (Value.int .i64)) ++ [.int .i64 u]) rfl HO2.out (some ⟨b, i, none⟩) (l.length - i) (c - i) ((l.drop i).map (Value.int .i64)) rfl (by simp) (fun h => lst_src (lst_drop0 HR.out i) HB2.out (by simp; omega)) (int_one _) (by unfold maxLen; omega) (by omega) (by have := HB2.out.size; omega) ?_; intro v3 w3 hown3 hgrow3 hat3; have HO3 := Lib.hid hown3; have HB3 := Lib.hid (show Below wr.heap.size wr w3 from Below.grown HB2.out hgrow3 HB2.out.size (fun kk e => (HO2.out.lt kk e).1)); clear hown3 hgrow3 hat3))
          go_ret
          refine ⟨⟨l.take i ++ u :: l.drop i, v3, rfl, ?_, HP.out, put_perm l u i⟩, HB3.out⟩
          have h := HO3.out
          have e1 : 0 + i + 1 + (l.length - i) = (l.take i ++ u :: l.drop i).length := by simp; omega
          have e2 : [] ++ (l.take i).map (Value.int .i64) ++ [.int .i64 u] ++ (l.drop i).map (Value.int .i64) = (l.take i ++ u :: l.drop i).map (Value.int .i64) := by simp
          rw [e1, e2] at h
          exact h
      · have hge : l.length ≤ i := by omega
        have HP := Lib.hid (put_ris HS.out HQ.out (fun h => absurd h (by omega)))
        go_wp2_with (first
          | (at_builtin; refine wpList_append_src _ rfl (.tmp 34) (.tmp 37) 23 rfl wr.heap.size 3 i0 (.int .i64 0) 8 Tryd.underlying23 HZ.out.1 HZ.out.2.1 HZ.out.2.2.1 HZ.out.2.2.2 rfl (.slice (some ⟨wr.heap.size, 0, none⟩) 0 0) 0 [] rfl (owns_emptyN _ _ _ _ _ (Nat.le_refl _) (heap_at_new _ _ _ rfl)) (some ⟨b, 0, none⟩) i c ((l.take i).map (Value.int .i64)) rfl (by simp <;> omega) (fun h => lst_src (lst_take HR.out i) (below_alloc _ _) (by simp; omega)) (int_one _) (by unfold maxLen; omega) (by omega) (by simp) ?_; intro v1 w1 hown1 hgrow1 hat1; have HO1 := Lib.hid hown1; have HB1 := Lib.hid (Below.grown (below_alloc _ _) hgrow1 (by simp) (fun kk e => by simp [Value.ownBlock] at e; omega)); clear hown1 hgrow1 hat1)
          | (at_builtin; refine wpList_append_src _ rfl (.tmp 39) (.tmp 41) 23 rfl wr.heap.size 3 i0 (.int .i64 0) 8 Tryd.underlying23 HZ.out.1 HZ.out.2.1 HZ.out.2.2.1 HZ.out.2.2.2 rfl v1 (0 + i) ([] ++ ((l.take i).map (Value.int .i64))) rfl (HO1.out.alloc _) (some ⟨w1.heap.size, 0, none⟩) 1 1 [.int .i64 u] rfl rfl (fun _ => ⟨_, rfl, one_news (by simp)⟩) (by intro y hy; simp at hy; subst hy; rfl) (by unfold maxLen; omega) (by omega) (by simp; have := HB1.out.size; omega) ?_; intro v2 w2 hown2 hgrow2 hat2; have HO2 := Lib.hid hown2; have HB2 := Lib.hid (show Below wr.heap.size wr w2 from Below.grown (HB1.out.alloc HB1.out.size _) hgrow2 (by simp; have := HB1.out.size; omega) (fun kk e => by have := (HO1.out.lt kk e).1; omega)); clear hown2 hgrow2 hat2)
          | (at_builtin; refine wpList_append_src _ rfl (.tmp 43) (.tmp 46) 23 rfl wr.heap.size 3 i0 (.int .i64 0) 8 Tryd.underlying23 HZ.out.1 HZ.out.2.1 HZ.out.2.2.1 HZ.out.2.2.2 rfl v2 (0 + i + 1) ([] ++ ((l.take i).map (Value.int .i64)) ++ [.int .i64 u]) rfl HO2.out (if c = i then some ⟨b, 0, none⟩ else some ⟨b, i, none⟩) 0 (c - i) ([] : List Value) rfl (by simp) (fun h => absurd h (by simp)) (by simp) (by unfold maxLen; omega) (by omega) (by have := HB2.out.size; omega) ?_; intro v3 w3 hown3 hgrow3 hat3; have HO3 := Lib.hid hown3; have HB3 := Lib.hid (show Below wr.heap.size wr w3 from Below.grown HB2.out hgrow3 HB2.out.size (fun kk e => (HO2.out.lt kk e).1)); clear hown3 hgrow3 hat3))
        all_goals
          go_ret
          refine ⟨⟨l.take i ++ u :: l.drop i, v3, rfl, ?_, HP.out, put_perm l u i⟩, HB3.out⟩
          have h := HO3.out
          have e1 : 0 + i + 1 + 0 = (l.take i ++ u :: l.drop i).length := by simp; omega
          have e2 : [] ++ (l.take i).map (Value.int .i64) ++ [.int .i64 u] ++ ([] : List Value) = (l.take i ++ u :: l.drop i).map (Value.int .i64) := by rw [List.drop_eq_nil_of_le hge]; simp
          rw [e1, e2] at h
          exact h
end Go.Proofs.YtocjkhfghldnnaaDoor

namespace Go.Proofs.YtocjkhfghldnnaaDoor
open Go.ChangeShapes Go.WideShapes Go.ChangeAt Go.RowKit Go.PlainAid Go.Sort
set_option linter.unusedVariables false

theorem row_base {w : World} {B B' sz n : Nat} {e : TypeId} {v : Value} {cs : List Value} (h : w.ownsRow B e sz v n cs) (hB : B' ≤ B) : w.ownsRow B' e sz v n cs := by
  refine ⟨h.1, ?_⟩
  rcases h.2 with h2 | ⟨g, cap, cur, hv, h1, h2⟩
  · exact .inl h2
  · exact .inr ⟨g, cap, cur, hv, Nat.le_trans hB h1, h2⟩
structure RowSh (w : World) (A : Option Addr) (c : Nat) (xs : List Int) : Prop where
  lst : Lst w w.heap.size A xs
  none_ : A = none → c = 0 ∧ xs = []
  cap : xs.length ≤ c ∧ c ≤ 9223372036854775807
  off : ∀ a, A = some a → ∃ b, a = ⟨b, 0, none⟩
theorem row_shape {w : World} {B : Nat} {v : Value} {xs : List Int} (h : w.ownsRow B 3 1 v xs.length (xs.map (Value.int .i64))) : ∃ A c, v = .slice A xs.length c ∧ RowSh w A c xs := by
  obtain ⟨A, c, rfl, hl⟩ := row_lst h
  rcases h.2 with ⟨hv, h0⟩ | ⟨g, cap, cur, hv, _, _, h3, h4, _⟩
  · injection hv with e1 e2 e3
    subst e1
    subst e3
    exact ⟨none, 0, rfl, hl, fun _ => ⟨rfl, List.length_eq_zero_iff.1 e2⟩, ⟨by omega, by omega⟩, fun a e => by cases e⟩
  · injection hv with e1 e2 e3
    subst e1
    subst e3
    unfold maxLen at h4
    exact ⟨_, c, rfl, hl, (fun e => by cases e), ⟨h3, h4⟩, fun a e => ⟨g, (Option.some.inj e).symm⟩⟩
theorem take_more {l : List Int} {k : Nat} (h : k < l.length) : l.take (k + 1) = l.take k ++ [it l k] := by
  rw [List.take_add_one, List.getElem?_eq_getElem h]
  simp [it, List.getD_eq_getElem?_getD, h]
theorem notin_take {l : List Int} (hn : l.Nodup) {k : Nat} (h : k < l.length) : ¬ it l k ∈ l.take k := fun hm => by
  have h2 : (l.take (k + 1)).Nodup := hn.sublist (List.take_sublist _ _)
  rw [take_more h, List.nodup_append] at h2
  exact h2.2.2 _ hm _ (by simp) rfl
theorem bnOk_of {x : Cd} {n : Nat} (h : NmbOk x (n : Int)) (hl : n ≤ (chTo x n).out.length) : BnOk x (n : Int) := by
  have h1 := chTo_count x (cdOk_fams h.cd) 14
  have h2 := chTo_count x (cdOk_fams h.cd) n
  have h3 := h.hi
  exact ⟨h.cd, h.lo, by omega⟩
theorem nmb_of {x : Cd} {n : Int} (h : BnOk x n) : NmbOk x n := ⟨h.1, h.2.1, by have := bnOk_le h; have := h.2; omega⟩

set_option maxHeartbeats 8000000 in
set_option maxRecDepth 100000 in
theorem pnNames_any (A L : Option Addr) (c d : Nat) (x : Cd) (n : Int) (w : World) (hr : CdAt w A L x) (hl : CdFits x) :
    Calls Tryd.prog 31 #[x.val A c L d, .int .i64 n] w fun e w' => (∃ R d, e = .returned (.tuple #[.slice R (bnF x n).length d, .bool (pB (BnOk x n))]) ∧ Owned (fun i => w.heap.size ≤ i ∧ i < w'.heap.size) w' R (bnF x n)) ∧ Below w.heap.size w w' := by
  obtain ⟨W, hW, hB⟩ := boxed 31 w A c L d x
  have HB := Lib.hid hB
  have HX := Lib.hid hB.at_
  have HR := Lib.hid (hr.below hB.below)
  have HL := Lib.hid hl
  clear hr hl hB
  unfold boxCd at hW
  unfold Cd.val
  go_enter Tryd.func31, Tryd.ntmps31
  go_wp2_with fail
  rw [← hW]
  clear hW
  refine (pnAsked_any A L c d x n W HR.out HL.out).mono ?_
  rintro e w1 ⟨he, hb1⟩
  have HB1 := Lib.hid (Below_next HB.out.below hb1)
  have HX1 := Lib.hid (HX.out.next hb1)
  have HR1 := Lib.hid (HR.out.below hb1)
  clear hb1
  by_cases hok : NmbOk x n
  rotate_left
  · rw [pB_no hok] at he
    subst he
    have HN := Lib.hid (bn_no (x := x) (n := n) (fun h => hok (nmb_of h)))
    clear hok
    go_wp2
    go_returns
    rw [HN.out.1, HN.out.2]
    exact ⟨⟨none, 0, rfl, Owned.nil _ _ _⟩, HB1.out⟩
  rw [pB_yes hok] at he
  subst he
  have HK := Lib.hid hok
  obtain ⟨N, rfl⟩ : ∃ N : Nat, n = (N : Int) := ⟨n.toNat, by have := hok.lo; omega⟩
  have hN : N ≤ 14 := by have := hok.hi; omega
  have hNp : 1 ≤ N := by have := hok.lo; omega
  clear hok
  obtain ⟨x0, x1, x2, x3, x4, x5⟩ := HX1.out.box
  go_wp2_with fail
  clear x0 x1 x2 x3 x4 x5
  refine (pnChoose_any A L c d x N w1 HR1.out HK.out.cd hN).mono ?_
  rintro e w2 ⟨⟨A', c', rfl, ho⟩, hb2⟩
  have HB2 := Lib.hid (Below_next HB1.out hb2)
  have HL2 := Lib.hid ho
  have HND := Lib.hid (chTo_nodup x N)
  have hlen := chTo_len x N
  obtain ⟨out, hout⟩ : ∃ out, out = (chTo x N).out := ⟨_, rfl⟩
  have HOUT := Lib.hid hout
  rw [← hout] at HL2 HND hlen ⊢
  clear ho hb2 hout
  go_wp2
  go_loopw [6, 17] (fun v kv wr => ∃ (k : Nat) (r : List Int), k ≤ out.length ∧ kv = .int .i64 k ∧ Hid (wr.ownsRow w2.heap.size 3 1 v r.length (r.map (Value.int .i64))) ∧ Hid (Ris r) ∧ Hid (r.Perm (out.take k)) ∧ Hid (Below w2.heap.size w2 wr)) (fun _ kv _ => out.length - (intOf kv).toNat)
  case atStart => exact ⟨0, [], Nat.zero_le _, rfl, Lib.hid (World.ownsRow_nil w2 _ _ _), Lib.hid List.Pairwise.nil, Lib.hid (List.Perm.refl _), Lib.hid (Below.refl _ _)⟩
  case round =>
    obtain ⟨k, r, hk, rfl, HO, HRS, HPM, HBR⟩ := hrel
    obtain ⟨A1, c1, rfl, hsh⟩ := row_shape HO.out
    have HSH := Lib.hid hsh
    have hrl : r.length = k := by
      have := HPM.out.length_eq
      rw [List.length_take] at this
      omega
    have HRL := Lib.hid hrl
    clear hsh
    by_cases hlt : k < out.length
    · obtain ⟨b', o', rfl, hbl, hce⟩ := HL2.out.int (by omega)
      have c0 := (HBR.out.cell (p := ⟨b', o' + k, none⟩) hbl).trans (hce k hlt)
      have HPUT := Lib.hid (l1Put_any 0 A1 c1 r (it out k) wr HSH.out.lst HSH.out.none_ HSH.out.cap (fun _ _ _ => trivial) HSH.out.off (by omega) HRS.out (fun hm => notin_take HND.out hlt ((HPM.out.mem_iff).1 hm)))
      clear hrl hce
      go_wp2_with fail
      refine HPUT.out.mono ?_
      rintro e w3 ⟨⟨r2, v2, rfl, hv2, hr2, hp2⟩, hb3⟩
      have HO2 := Lib.hid (row_base hv2 (show w2.heap.size ≤ wr.heap.size from HBR.out.size))
      have HR2 := Lib.hid hr2
      have HP2 := Lib.hid (show r2.Perm (out.take (k + 1)) from by
        rw [take_more hlt]
        exact hp2.trans ((List.Perm.cons _ HPM.out).trans (List.perm_append_comm (l₁ := [it out k]) (l₂ := out.take k)))) 
      have HB3 := Lib.hid (HBR.out.trans (hb3.mono HBR.out.size))
      clear hv2 hr2 hp2 hb3 c0
      go_wp2
      go_roundw
      case rel => exact ⟨k + 1, r2, by omega, by go_num, HO2, HR2, HP2, HB3⟩
      case measure => simp [intOf]; omega
    · obtain rfl : k = out.length := by omega
      have HPF := Lib.hid (show r.Perm out from by have h := HPM.out; rwa [List.take_length] at h)
      have HBZ := Lib.hid (HB2.out.trans (HBR.out.mono HB2.out.size))
      rcases Nat.lt_or_ge r.length N with hs | hs
      · have HN := Lib.hid (bn_no (x := x) (n := (N : Int)) (fun h => by have h2 := bn_len h; have h3 : ((N : Int)).toNat = N := rfl; rw [h3, ← HOUT.out, ← HRL.out] at h2; omega))
        clear hrl
        go_wp2
        go_returns
        rw [HN.out.1, HN.out.2]
        exact ⟨⟨none, 0, rfl, Owned.nil _ _ _⟩, HBZ.out⟩
      · have HOK := Lib.hid (bnOk_of HK.out (by rw [← HOUT.out, ← HRL.out]; exact hs))
        have HV1 := Lib.hid (show bnF x (N : Int) = r from by rw [bnF_yes HOK.out, show ((N : Int)).toNat = N from rfl, ← HOUT.out]; exact (ris_merge HRS.out HPF.out).symm)
        have HV2 := Lib.hid (show pB (BnOk x (N : Int)) = true from pB_yes HOK.out)
        clear hrl
        go_wp2
        go_returns
        rw [HV1.out, HV2.out]
        obtain ⟨A9, c9, e9, how⟩ := own_row r HO.out
        injection e9 with e1 e2 e3
        subst e1
        have h5 := HB2.out.size
        exact ⟨⟨_, c1, rfl, how.lt.mono (fun i hi => ⟨by have := hi.1; omega, hi.2⟩)⟩, HBZ.out⟩
theorem sBestNames_any (A L : Option Addr) (c d : Nat) (x : Cd) (n : Int) (w : World) (hr : CdAt w A L x) (hl : CdFits x) :
    Calls Tryd.prog 12 #[x.val A c L d, .int .i64 n] w fun e w' => (∃ R d, e = .returned (.tuple #[.slice R (bnF x n).length d, .bool (pB (BnOk x n))]) ∧ Owned (fun i => w.heap.size ≤ i ∧ i < w'.heap.size) w' R (bnF x n)) ∧ Below w.heap.size w w' := by
  obtain ⟨W, hW, hB⟩ := boxed 31 w A c L d x
  have HB := Lib.hid hB
  have HR := Lib.hid (hr.below hB.below)
  have HL := Lib.hid hl
  clear hr hl hB
  unfold boxCd at hW
  unfold Cd.val
  go_enter Tryd.func12, Tryd.ntmps12
  go_wp2_with fail
  rw [← hW]
  clear hW
  refine (pnNames_any A L c d x n W HR.out HL.out).mono ?_
  rintro e w1 ⟨⟨R, dd, rfl, how⟩, hb1⟩
  have HOW := Lib.hid how
  have HB1 := Lib.hid (Below_next HB.out.below hb1)
  clear how hb1
  go_wp2
  go_returns
  have h5 := HB.out.below.size
  exact ⟨⟨R, dd, rfl, HOW.out.mono (fun i hi => ⟨by have := hi.1; omega, hi.2⟩)⟩, HB1.out⟩
end Go.Proofs.YtocjkhfghldnnaaDoor
