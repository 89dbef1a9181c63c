/- A copy of a list of numbers, by rising numbers of them. -/
import Derived.Test.YtnambmpnolkfjaaPnW
import Derived.Test.YtnambmpnolkfjaaAppN
import Derived.Test.YtnambmpnolkfjaaItems
import Derived.Shelf.SlGeneric
namespace Go.Proofs.Ytnambmpnolkfjaa
open Go.ChangeShapes Go.WideShapes Go.ChangeAt Go.RowKit Go.Lib Go.Sort Go.Proofs
set_option linter.unusedVariables false

theorem Below_next {w w1 w2 : World} (h : Below w.heap.size w w1) (k : Below w1.heap.size w1 w2) : Below w.heap.size w w2 := h.trans (k.mono h.size)
theorem flatMap_intX (xs : List Int) : xs.flatMap Flat.cells = xs.map (Value.int .i64) := by
  induction xs with
  | nil => rfl
  | cons x r ih =>
    rw [List.flatMap_cons, List.map_cons, ih]
    rfl
theorem cloneL_any (b o c : Nat) (xs : List Int) (w : World) (hc : ∀ i, i < xs.length → w.cell? ⟨b, o + i, none⟩ = some (.int .i64 (it xs i))) (hl : xs.length ≤ 1048576) :
    Calls Try.prog 67 #[.slice (some ⟨b, o, none⟩) xs.length c] w fun e w' => ∃ g cap, e = .returned (.slice (some ⟨g, 0, none⟩) xs.length cap) ∧ OwnAt w' g 0 xs ∧ w.heap.size ≤ g ∧ g < w'.heap.size ∧ Below w.heap.size w w' := by
  refine (Try.slices_Clone_int b o xs.length c xs w (Nat.le_refl _) (by omega) hc).mono ?_
  rintro e w' ⟨v, rfl, ho, hne, hb⟩
  rw [List.take_length] at ho
  rcases ho.2 with ⟨hv, _⟩ | ⟨g, cap, cur, rfl, _⟩
  · exact absurd hv hne
  · refine ⟨g, cap, rfl, ?_, (ho.lt g rfl).1, (ho.lt g rfl).2, hb⟩
    refine own_of_row (α := Int) (cap := cap) (e := 3) (base := w.heap.size) xs ?_
    rw [flatMap_intX]
    exact ho
theorem heap_mapBlock (w : World) (b k : Nat) (f : Array Value → Array Value) (h : k ≠ b) : (Sort.mapBlock w b f).heap[k]? = w.heap[k]? := by
  unfold Sort.mapBlock
  simp only [Array.getElem?_modify]
  rw [if_neg (by omega)]
theorem sw_below {l : List Int} {w0 W : World} {blk off : Nat} {d : Array Nat} (h : SW (encI l) w0 blk off d W) (hb : blk < w0.heap.size) : Below blk w0 W := by
  obtain ⟨n, os, rfl⟩ := h
  unfold sortWorld
  refine ⟨rfl, rfl, rfl, by simp, fun k hk => ?_⟩
  rw [Sort.heap_grow_old _ _ (by simp; omega)]
  unfold Sort.putRow
  rw [heap_mapBlock _ _ _ _ (by omega)]
  rfl
theorem range_get (n i : Nat) (h : i < n) : (Array.range n)[i]! = i := by rw [getElem!_pos _ i (by simpa using h)]; simp
theorem row_of_own {l : List Int} {w : World} {g : Nat} (h : OwnAt w g 0 l) (hg : g < w.heap.size) : Row1 (encI l) w g 0 (Array.range l.length) := by
  refine ⟨encI_one l, fun j hj => ?_, hg⟩
  have hj' : j < l.length := by simpa using hj
  have h1 := h.cell j hj' 0 _ rfl
  have h2 := h.free j 0 hj' (by decide)
  rw [range_get _ _ hj']
  simp only [Nat.zero_add, Nat.add_zero] at h1 h2 ⊢
  have e : j * Flat.sz Int = j := Nat.mul_one j
  rw [e] at h1 h2
  exact ⟨h1, h2⟩
theorem own_of_sw {l : List Int} {w0 W : World} {g : Nat} {d0 d : Array Nat} (S : SW (encI l) w0 g 0 d W) (R : Row1 (encI l) w0 g 0 d0) (hs : d.size = d0.size) : OwnAt W g 0 (d.toList.map (it l)) := by
  refine ⟨fun i hi => ?_, fun i j hi hj => ?_⟩
  · have hi' : i < d.size := by simpa using hi
    have h1 := S.c1 R hs i hi'
    have e : it (d.toList.map (it l)) i = it l d[i]! := by
      rw [getElem!_pos d i hi']
      simp [it, List.getD_eq_getElem?_getD, hi']
    intro k v hk
    rw [e] at hk
    match k, hk with
    | 0, hk =>
      have hv : v = encI l d[i]! := (Option.some.inj hk).symm
      rw [hv, ← h1]
      have e2 : (0 + i * Flat.sz Int + 0 : Nat) = 0 + i := by show 0 + i * 1 + 0 = 0 + i; omega
      rw [e2]
  · have hi' : i < d.size := by simpa using hi
    have hj' : j = 0 := by have : j < 1 := hj; omega
    subst hj'
    have h1 := S.f1 R hs i hi'
    have e2 : (0 + i * Flat.sz Int + 0 : Nat) = 0 + i := by show 0 + i * 1 + 0 = 0 + i; omega
    rw [e2]
    exact h1

theorem sortStable_any (key : Nat → Int) (l : List Int) (g : Nat) (cb : Array Value) (blk off cap : Nat) (d0 d : Array Nat) (w0 w : World) (eg : ∀ args w, (callFunc g args).run Try.prog w = .ok (.enter g args) w) (hcmp : CmpLays1 Try.prog g cb (encI l) (cfK key) blk off d0.size w0) (R : Row1 (encI l) w0 blk off d0) (hs : d0.size = d.size) (S : SW (encI l) w0 blk off d w) (hn : d.size < 40) (hT : ∀ i j, i < j → j < d.size → d[i]! < d[j]!) :
    Calls Try.prog 108 #[.slice (some ⟨blk, off, none⟩) d.size cap, .func (.func g) #[] cb] w fun e w' => e = .returned (.tuple #[]) ∧ SymOut key l blk off w0 0 d.size d w' := by
  have HC := Lib.hid (stable_any key l g cb blk off cap d0 d w0 w eg hcmp R hs S hn hT)
  clear eg hcmp R hs S hT
  obtain ⟨N, hN⟩ : ∃ N, N = d.size := ⟨_, rfl⟩
  rw [← hN] at HC hn ⊢
  clear hN
  go_enter Try.func108, Try.ntmps108
  go_wp2_with (first | (go_at_call 113; refine HC.out.mono ?_; rintro e9 w9 ⟨rfl, ho⟩; have HO := Lib.hid ho; clear ho))
  go_end0
  exact ⟨rfl, HO.out⟩

/-- A sorted copy of a list. -/
structure SrtOf (num : Int → Int) (l : List Int) (d : Array Nat) : Prop where
  sz : d.size = l.length
  pm : PermIn 0 l.length (Array.range l.length) d
  srt : Srt (fun i => num (it l i)) 0 l.length d
theorem sortedBy_any (G : Nat) (ptr : Value) (num : Int → Int) (b o c : Nat) (l : List Int) (w : World) (eG : ∀ args w, (callFunc G args).run Try.prog w = .ok (.enter G args) w) (hl : l.length < 40) (hbo : b < w.heap.size) (hc : ∀ i, i < l.length → w.cell? ⟨b, o + i, none⟩ = some (.int .i64 (it l i)))
    (hN : ∀ W' : World, (∀ a : Addr, a.block < w.heap.size → W'.cell? a = w.cell? a) → ∀ i : Nat, Calls Try.prog G (#[.int .i64 (it l i)] ++ #[ptr]) W' fun e w' => e = .returned (.int .i64 (num (it l i))) ∧ w' = W') :
    Calls Try.prog 96 #[.slice (some ⟨b, o, none⟩) l.length c, .func (.func G) #[] #[ptr]] w fun e w' => ∃ g cap d, e = .returned (.slice (some ⟨g, 0, none⟩) l.length cap) ∧ SrtOf num l d ∧ OwnAt w' g 0 (d.toList.map (it l)) ∧ w.heap.size ≤ g ∧ g < w'.heap.size ∧ Below w.heap.size w w' := by
  obtain ⟨W1, hW1⟩ : ∃ W1, W1 = w.alloc (.cells #[.func (.func G) #[] #[ptr]] 68) := ⟨_, rfl⟩
  have hsz : W1.heap.size = w.heap.size + 1 := by rw [hW1]; simp
  have hb1 : Below w.heap.size w W1 := by rw [hW1]; exact below_alloc w _
  have hq1 : W1.cell? ⟨w.heap.size, 0, none⟩ = some (.func (.func G) #[] #[ptr]) := by rw [hW1]; simp
  have hcl := cloneL_any b o c l W1 (fun i hi => (hb1.cell (p := ⟨b, o + i, none⟩) hbo).trans (hc i hi)) (by omega)
  have HCL := Lib.hid hcl
  have HB1 := Lib.hid hb1
  have HQ1 := Lib.hid hq1
  have HNN := Lib.hid hN
  have HEG := Lib.hid eG
  have ec : ∀ args w, (callFunc 109 args).run Try.prog w = .ok (.enter 109 args) w := enters_of Try.func109 (by kernel_rfl) rfl
  clear hcl hb1 hq1 hN eG hc
  go_enter Try.func96, Try.ntmps96
  go_wp2_with fail
  rw [← hW1]
  clear hW1
  refine HCL.out.mono ?_
  rintro e w2 ⟨g, cap, rfl, ho, hg1, hg2, hb2⟩
  have HB2 := Lib.hid (Below_next HB1.out hb2)
  have HR := Lib.hid (row_of_own ho hg2)
  have HB3 := Lib.hid hb2
  have hcmp : CmpLays1 Try.prog 109 #[.pointer (some ⟨w.heap.size, 0, none⟩)] (encI l) (cfK fun i => num (it l i)) g 0 (Array.range l.length).size w2 := fun m os dk hs x y => by
    have hsw : SW (encI l) w2 g 0 dk (sortWorld (encI l) w2 g 0 m dk os) := ⟨m, os, rfl⟩
    have hcell : ∀ k (a : Addr), a.block < g → ((sortWorld (encI l) w2 g 0 m dk os).drewN k).cell? a = w2.cell? a := fun k a ha => (sw_below (hsw.drewN k) hg2).cell (p := a) ha
    have hag : ∀ k (a : Addr), a.block < w.heap.size → ((sortWorld (encI l) w2 g 0 m dk os).drewN k).cell? a = w.cell? a := fun k a ha => (hcell k a (by omega)).trans (HB2.out.cell (p := a) ha)
    have h := sbC_any G ptr w.heap.size (it l x) (it l y) (num (it l x)) (num (it l y)) (sortWorld (encI l) w2 g 0 m dk os) HEG.out (fun k => (hcell k ⟨w.heap.size, 0, none⟩ (by show w.heap.size < g; omega)).trans ((HB3.out.cell (p := ⟨w.heap.size, 0, none⟩) (by show w.heap.size < W1.heap.size; omega)).trans HQ1.out)) (fun k => HNN.out _ (hag k) x) (fun k => HNN.out _ (hag k) y)
    refine Calls.mono h ?_
    rintro e w' ⟨rfl, k, rfl⟩
    exact ⟨rfl, k, #[], by rw [grow_empty]⟩
  have hst := sortStable_any (fun i => num (it l i)) l 109 #[.pointer (some ⟨w.heap.size, 0, none⟩)] g 0 cap (Array.range l.length) (Array.range l.length) w2 w2 ec hcmp HR.out rfl (SW.start HR.out.hH) (by simpa using hl) (fun i j hij hj => by
    have hj' : j < l.length := by simpa using hj
    rw [range_get _ _ hj', range_get _ _ (by omega)]
    exact hij)
  rw [Array.size_range] at hst
  have HST := Lib.hid hst
  clear hst hcmp ho hb2 ec
  go_wp2_with (first | (go_at_call 108; refine HST.out.mono ?_; rintro e9 w9 ⟨rfl, hso⟩; have HO := Lib.hid hso; clear hso))
  go_ret
  obtain ⟨d, k1, k2, k3, k4⟩ := HO.out
  have k2' : d.size = l.length := k2.trans Array.size_range
  have hb9 := sw_below k1 hg2
  exact ⟨g, cap, d, rfl, ⟨k2', k3, k4⟩, own_of_sw k1 HR.out k2, by omega, Nat.lt_of_lt_of_le hg2 hb9.size, HB2.out.trans (hb9.mono (by omega))⟩
end Go.Proofs.Ytnambmpnolkfjaa
