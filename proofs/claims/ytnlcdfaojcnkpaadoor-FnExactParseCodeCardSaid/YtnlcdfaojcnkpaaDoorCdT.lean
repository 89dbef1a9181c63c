/- The text of a code, in the model and in the program. -/
import Derived.Test.YtnlcdfaojcnkpaaDoorBc
import Derived.Test.YtnlcdfaojcnkpaaDoorNum
import Derived.Test.YtnlcdfaojcnkpaaDoorCdO
namespace Go.Proofs.YtnlcdfaojcnkpaaDoor
open Go.ChangeShapes Go.WideShapes Go.ChangeAt Go.RowKit Go.PlainAid Go.Sort
set_option linter.unusedVariables false

/-- The decimal digits of a number that is not negative. -/
def DI (v : Int) : ByteArray := ⟨(Lib.decDigits v.toNat).toArray⟩
theorem DI_size (v : Int) (h0 : 0 ≤ v) (h : v ≤ 1000000000000) : (DI v).size ≤ 14 := by
  have := dec_len 13 v.toNat (by omega)
  show (Lib.decDigits v.toNat).toArray.size ≤ 14
  simp
  omega
theorem l1Num_i (v : Int) (w : World) (h0 : 0 ≤ v) (h : v ≤ 1000000000000) :
    Calls Tryd.prog 89 #[.int .i64 v] w fun e w' => e = .returned (.string (DI v)) ∧ Below w.heap.size w w' := by
  have := l1Num_any v.toNat v.toNat (Nat.le_refl _) (by omega) w
  rw [show ((v.toNat : Nat) : Int) = v by omega] at this
  exact this
theorem gPow : Tryd.prog.globalNamed "internal/strconv.uint64pow10" = some 3 := by kernel_rfl
/-- The library's table of powers of ten holds what it is laid with. -/
structure Tab10 (w : World) : Prop where
  lt : 3 < w.heap.size
  var : Lib.TabIs Tryd.prog w "internal/strconv.uint64pow10" .u64 Lib.pow10Tab
theorem Tab10.next {w w' : World} (h : Tab10 w) (hb : Below w.heap.size w w') : Tab10 w' := ⟨Nat.lt_of_lt_of_le h.lt hb.size, var?_below hb gPow h.lt h.var⟩
theorem itoa_any (v : Int) (w : World) (h0 : 0 ≤ v) (h : v ≤ 1000000000000) (ht : Tab10 w) :
    Calls Tryd.prog 70 #[.int .i64 v] w fun e w' => e = .returned (.string (DI v)) ∧ Below w.heap.size w w' :=
  (Tryd.strconv_Itoa v (by omega) (by omega) w ht.var).mono fun e w' ⟨he, k, os, hw⟩ => by
    refine ⟨?_, ?_⟩
    · rw [he]
      unfold Lib.itoa
      rw [if_neg (by omega)]
      rfl
    · rw [hw]
      exact ⟨rfl, rfl, rfl, by simp, fun i hi => Sort.heap_grow_old _ _ hi⟩

/-- A word and the first k numbers of a list, each behind a blank. -/
def lnTo (word : ByteArray) (l : List Int) : Nat → ByteArray
  | 0 => word
  | k + 1 => lnTo word l k ++ (⟨#[32]⟩ ++ DI (it l k))
def lnT (word : ByteArray) (l : List Int) : ByteArray := lnTo word l l.length ++ ⟨#[10]⟩
def NumOk (l : List Int) : Prop := ∀ i, i < l.length → 0 ≤ it l i ∧ it l i ≤ 2000
theorem lnTo_size (word : ByteArray) (l : List Int) (hn : NumOk l) : ∀ k, k ≤ l.length → (lnTo word l k).size ≤ word.size + k * 15
  | 0, _ => by simp [lnTo]
  | k + 1, hk => by
    have ih := lnTo_size word l hn k (by omega)
    have h := hn k (by omega)
    have := DI_size (it l k) h.1 (by omega)
    show (lnTo word l k ++ (⟨#[32]⟩ ++ DI (it l k))).size ≤ _
    rw [ByteArray.size_append, ByteArray.size_append]
    have : (⟨#[32]⟩ : ByteArray).size = 1 := rfl
    omega
theorem lnT_size (word : ByteArray) (l : List Int) (hn : NumOk l) : (lnT word l).size ≤ word.size + l.length * 15 + 1 := by
  have := lnTo_size word l hn l.length (Nat.le_refl _)
  unfold lnT
  rw [ByteArray.size_append]
  have : (⟨#[10]⟩ : ByteArray).size = 1 := rfl
  omega
theorem lst_alloc (w : World) (l : List Int) (t : TypeId) : Lst (w.alloc (.cells (l.map (Value.int .i64)).toArray t)) (w.heap.size + 1) (some ⟨w.heap.size, 0, none⟩) l := Lst.of_int fun hp =>
  ⟨w.heap.size, 0, rfl, by omega, fun i hi => by
    simp [it_get l i hi]⟩
theorem lst_new (w : World) (l : List Int) (t : TypeId) : Lst (w.alloc (.cells (l.map (Value.int .i64)).toArray t)) (w.alloc (.cells (l.map (Value.int .i64)).toArray t)).heap.size (some ⟨w.heap.size, 0, none⟩) l := by
  rw [show (w.alloc (.cells (l.map (Value.int .i64)).toArray t)).heap.size = w.heap.size + 1 by simp]
  exact lst_alloc w l t

theorem cdLine_any (word : ByteArray) (A : Option Addr) (c : Nat) (l : List Int) (w : World) (hr : Lst w w.heap.size A l) (hl : l.length ≤ 100) (hw : word.size ≤ 1048576) (hn : NumOk l) :
    Calls Tryd.prog 65 #[.string word, .slice A l.length c] w fun e w' => e = .returned (.string (lnT word l)) ∧ Below w.heap.size w w' := by
  have HR := Lib.hid hr
  have HN := Lib.hid hn
  clear hr hn
  go_enter Tryd.func65, Tryd.ntmps65
  go_wp2
  go_loopw [0, 9] (fun s i wr => ∃ k : Nat, k ≤ l.length ∧ i = .int .i64 k ∧ s = .string (lnTo word l k) ∧ Below w.heap.size w wr) (fun _ i _ => l.length - (intOf i).toNat)
  case atStart => exact ⟨0, Nat.zero_le _, rfl, rfl, Below.refl _ _⟩
  case round =>
    obtain ⟨k, hk, rfl, rfl, hb⟩ := hrel
    have hsz := lnTo_size word l HN.out k hk
    by_cases hlt : k < l.length
    · obtain ⟨b, o, rfl, hbl, hc⟩ := HR.out.int (by omega)
      have ck := (hb.cell (p := ⟨b, o + k, none⟩) hbl).trans (hc k hlt)
      have hv := HN.out k hlt
      have hd := DI_size (it l k) hv.1 (by omega)
      have HB := Lib.hid hb
      have HL := Lib.hid (show lnTo word l (k + 1) = lnTo word l k ++ (⟨#[32]⟩ ++ DI (it l k)) from rfl)
      obtain ⟨hv0, hv1⟩ := hv
      clear hc hb
      go_wp2_with (go_at_call 89; refine (l1Num_i (it l k) _ (by omega) (by omega)).mono ?_; rintro e w2 ⟨rfl, hb2⟩; have HB2 := Lib.hid (Below_next HB.out hb2); clear hb2)
      go_roundw
      case rel => exact ⟨k + 1, by omega, by go_num, by rw [HL.out], HB2.out⟩
      case measure => simp [intOf]; omega
    · obtain rfl : k = l.length := by omega
      have HV := Lib.hid (show lnT word l = lnTo word l l.length ++ ⟨#[10]⟩ from rfl)
      go_wp2
      go_ret
      exact ⟨by rw [HV.out]; rfl, hb⟩

theorem wordLine_any (word : ByteArray) (A : Option Addr) (c : Nat) (l : List Int) (w : World) (hr : Lst w w.heap.size A l) (hl : l.length ≤ 100) (hw : word.size ≤ 1048576) (hn : NumOk l) (ht : Tab10 w) :
    Calls Tryd.prog 37 #[.string word, .slice A l.length c] w fun e w' => e = .returned (.string (lnT word l)) ∧ Below w.heap.size w w' := by
  have HR := Lib.hid hr
  have HN := Lib.hid hn
  have HT := Lib.hid ht
  clear hr hn ht
  go_enter Tryd.func37, Tryd.ntmps37
  go_wp2
  go_loopw [5, 11] (fun s i wr => ∃ k : Nat, k ≤ l.length ∧ i = .int .i64 k ∧ s = .string (lnTo word l k) ∧ Below w.heap.size w wr) (fun _ i _ => l.length - (intOf i).toNat)
  case atStart => exact ⟨0, Nat.zero_le _, rfl, rfl, Below.refl _ _⟩
  case round =>
    obtain ⟨k, hk, rfl, rfl, hb⟩ := hrel
    have hsz := lnTo_size word l HN.out k hk
    by_cases hlt : k < l.length
    · obtain ⟨b, o, rfl, hbl, hc⟩ := HR.out.int (by omega)
      have ck := (hb.cell (p := ⟨b, o + k, none⟩) hbl).trans (hc k hlt)
      have hv := HN.out k hlt
      have hd := DI_size (it l k) hv.1 (by omega)
      have HB := Lib.hid hb
      have HL := Lib.hid (show lnTo word l (k + 1) = lnTo word l k ++ (⟨#[32]⟩ ++ DI (it l k)) from rfl)
      obtain ⟨hv0, hv1⟩ := hv
      clear hc hb
      go_wp2_with (go_at_call 70; refine (itoa_any (it l k) _ (by omega) (by omega) (HT.out.next HB.out)).mono ?_; rintro e w2 ⟨rfl, hb2⟩; have HB2 := Lib.hid (Below_next HB.out hb2); clear hb2)
      go_roundw
      case rel => exact ⟨k + 1, by omega, by go_num, by rw [HL.out], HB2.out⟩
      case measure => simp [intOf]; omega
    · obtain rfl : k = l.length := by omega
      have HV := Lib.hid (show lnT word l = lnTo word l l.length ++ ⟨#[10]⟩ from rfl)
      go_wp2
      go_ret
      exact ⟨by rw [HV.out]; rfl, hb⟩

theorem lst_newg (w : World) (l : List Int) (t : TypeId) (g : Nat) (hg : w.heap.size = g) : Lst (w.alloc (.cells (l.map (Value.int .i64)).toArray t)) (w.alloc (.cells (l.map (Value.int .i64)).toArray t)).heap.size (some ⟨g, 0, none⟩) l := hg ▸ lst_new w l t
theorem lst_newd (w : World) (l : List Int) (t : TypeId) : Lst (w.alloc (.cells (l.map (Value.int .i64)).toArray t)).drew (w.alloc (.cells (l.map (Value.int .i64)).toArray t)).drew.heap.size (some ⟨w.heap.size, 0, none⟩) l := fun hp => lst_new w l t hp
theorem below_ad (w : World) (o : Obj) : Below w.heap.size w (w.alloc o).drew := (below_alloc w o).trans ((below_drewn _).mono (by simp))
/-- The text of the head and of the first k elements of a code. -/
def txTo (x : Cd) : Nat → ByteArray
  | 0 => lnT ⟨#[99, 111, 100, 101]⟩ [x.rep, x.bon, x.kee, x.fal] ++ lnT ⟨#[108, 105, 109, 105, 116, 115]⟩ x.lims
  | k + 1 => txTo x k ++ lnT (it x.els k).name [(it x.els k).fam, (it x.els k).lev, (it x.els k).base]
def txt (x : Cd) : ByteArray := txTo x x.els.length
theorem numOk4 {a b c d : Int} (ha : 0 ≤ a ∧ a ≤ 2000) (hb : 0 ≤ b ∧ b ≤ 2000) (hc : 0 ≤ c ∧ c ≤ 2000) (hd : 0 ≤ d ∧ d ≤ 2000) : NumOk [a, b, c, d] := fun i hi => by
  match i, hi with
  | 0, _ => exact ha
  | 1, _ => exact hb
  | 2, _ => exact hc
  | 3, _ => exact hd
theorem numOk3 {a b c : Int} (ha : 0 ≤ a ∧ a ≤ 2000) (hb : 0 ≤ b ∧ b ≤ 2000) (hc : 0 ≤ c ∧ c ≤ 2000) : NumOk [a, b, c] := fun i hi => by
  match i, hi with
  | 0, _ => exact ha
  | 1, _ => exact hb
  | 2, _ => exact hc
theorem CdOk.head {x : Cd} (h : CdOk x) : NumOk [x.rep, x.bon, x.kee, x.fal] := numOk4 (by have := h.rep; omega) (by have := h.bon; omega) (by have := h.kee; omega) (by have := h.fal; omega)
theorem CdOk.numLims {x : Cd} (h : CdOk x) : NumOk x.lims := fun i hi => by have := h.lims.lim i hi; omega
theorem ElOk.nums {x : El} (h : ElOk x) : NumOk [x.fam, x.lev, x.base] := numOk3 (by have := h.fam; omega) (by have := h.lev; omega) (by have := h.base; omega)
theorem head_size {x : Cd} (h : CdOk x) : (lnT ⟨#[99, 111, 100, 101]⟩ [x.rep, x.bon, x.kee, x.fal]).size ≤ 65 := lnT_size _ _ h.head
theorem lims_size {x : Cd} (h : CdOk x) : (lnT ⟨#[108, 105, 109, 105, 116, 115]⟩ x.lims).size ≤ 82 := by
  have h1 := lnT_size ⟨#[108, 105, 109, 105, 116, 115]⟩ x.lims h.numLims
  have h2 := h.lims.len
  have h3 : (⟨#[108, 105, 109, 105, 116, 115]⟩ : ByteArray).size = 6 := rfl
  omega
theorem el_size {x : El} (h : ElOk x) : (lnT x.name [x.fam, x.lev, x.base]).size ≤ 51 := by
  have h1 := lnT_size x.name _ h.nums
  have h2 := h.name.hi
  have h3 : [x.fam, x.lev, x.base].length = 3 := rfl
  omega
theorem txTo_size {x : Cd} (h : CdOk x) : ∀ k, k ≤ x.els.length → (txTo x k).size ≤ 147 + k * 51
  | 0, _ => by
    have h1 := head_size h
    have h2 := lims_size h
    show (_ ++ _ : ByteArray).size ≤ _
    rw [ByteArray.size_append]
    omega
  | k + 1, hk => by
    have ih := txTo_size h k (by omega)
    have h1 := el_size (h.els.el k (by omega))
    show (txTo x k ++ _ : ByteArray).size ≤ _
    rw [ByteArray.size_append]
    omega
/-- The cells of one box. -/
theorem box1 {w : World} {b : Nat} {A L : Option Addr} {c d : Nat} {x : Cd} (h : BoxAt w b A c L d x) :
    w.cell? ⟨b, 0, none⟩ = some (.slice A x.els.length c) ∧ w.cell? ⟨b, 1, none⟩ = some (.slice L x.lims.length d) ∧ w.cell? ⟨b, 2, none⟩ = some (.int .i64 x.rep) ∧ w.cell? ⟨b, 3, none⟩ = some (.int .i64 x.bon) ∧ w.cell? ⟨b, 4, none⟩ = some (.int .i64 x.kee) ∧ w.cell? ⟨b, 5, none⟩ = some (.int .i64 x.fal) :=
  ⟨h.box.c0, h.box.c1, h.box.c2, h.box.c3, h.box.c4, h.box.c5⟩

set_option maxHeartbeats 2000000 in
theorem cdText_any (A L : Option Addr) (c d : Nat) (x : Cd) (w : World) (hr : CdAt w A L x) (hok : CdOk x) :
    Calls Tryd.prog 33 #[x.val A c L d] w fun e w' => e = .returned (.string (txt x)) ∧ Below w.heap.size w w' := by
  obtain ⟨W, hW, hB⟩ := boxed 31 w A c L d x
  have HB0 := Lib.hid hB.below
  have HX0 := Lib.hid hB.at_
  have HR0 := Lib.hid (hr.below hB.below)
  have HOK := Lib.hid hok
  clear hr hok hB
  unfold boxCd at hW
  unfold Cd.val
  go_enter Tryd.func33, Tryd.ntmps33
  go_wp2_with fail
  rw [← hW]
  clear hW
  have HXd := Lib.hid (HX0.out.next (below_drewn _))
  have s1 := head_size HOK.out
  have s2 := lims_size HOK.out
  have n1 : ¬ 9223372036854775807 < (lnT ⟨#[99, 111, 100, 101]⟩ [x.rep, x.bon, x.kee, x.fal]).size + (lnT ⟨#[108, 105, 109, 105, 116, 115]⟩ x.lims).size := by omega
  have hL5 : x.lims.length ≤ 100 := by have := HOK.out.lims.len; omega
  go_region_held3 (fun w' => w'.cell? ⟨w.heap.size, 0, none⟩ = some (.slice A x.els.length c) ∧ w'.cell? ⟨w.heap.size, 1, none⟩ = some (.slice L x.lims.length d) ∧ w'.cell? ⟨w.heap.size, 2, none⟩ = some (.int .i64 x.rep) ∧ w'.cell? ⟨w.heap.size, 3, none⟩ = some (.int .i64 x.bon) ∧ w'.cell? ⟨w.heap.size, 4, none⟩ = some (.int .i64 x.kee) ∧ w'.cell? ⟨w.heap.size, 5, none⟩ = some (.int .i64 x.fal))
    (first | exact box1 HXd.out | exact box1 (HX0.out.next (below_ad _ _)) | exact box1 HX3.out | exact box1 HX4.out)
    (first
      | (go_at_call 65; refine (cdLine_any ⟨#[108, 105, 109, 105, 116, 115]⟩ L d x.lims _ HR3.out.lims (by omega) (by decide) HOK.out.numLims).mono ?_; rintro e w4 ⟨rfl, hb⟩; have HB4 := Lib.hid (Below_next HB3.out hb); have HX4 := Lib.hid (HX3.out.next hb); have HR4 := Lib.hid (HR3.out.below hb); clear hb)
      | (go_at_call 65; refine (cdLine_any ⟨#[99, 111, 100, 101]⟩ _ 4 [x.rep, x.bon, x.kee, x.fal] _ (lst_newd _ _ _) (by show 4 ≤ 100; omega) (by decide) HOK.out.head).mono ?_; rintro e w3 ⟨rfl, hb⟩; have HB3 := Lib.hid (Below_next (Below_next HB0.out (below_ad _ _)) hb); have HX3 := Lib.hid ((HX0.out.next (below_ad _ _)).next hb); have HR3 := Lib.hid ((HR0.out.below (below_ad _ _)).below hb); clear hb)
      )
  obtain ⟨x0, x1, x2, x3, x4, x5⟩ := HX4.out.box
  go_wp2
  clear x0 x1 x2 x3 x4 x5 s1 s2 hL5 n1
  go_loopw [3, 23] (fun s i wr => ∃ k : Nat, k ≤ x.els.length ∧ i = .int .i64 k ∧ s = .string (txTo x k) ∧ Below w4.heap.size w4 wr) (fun _ i _ => x.els.length - (intOf i).toNat)
  case atStart => exact ⟨0, Nat.zero_le _, rfl, rfl, Below.refl _ _⟩
  case round =>
    obtain ⟨k, hk, rfl, rfl, hb⟩ := hrel
    have HB5 := Lib.hid (Below_next HB4.out hb)
    have hsz := txTo_size HOK.out k hk
    have h24 := HOK.out.els.hi
    by_cases hlt : k < x.els.length
    · obtain ⟨b, o, rfl, hbl, hc⟩ := HR4.out.els.el (by omega)
      obtain ⟨c0, c1, c2, c3⟩ := (hc k hlt).below hb hbl
      have HE := Lib.hid (HOK.out.els.el k hlt)
      have hes := el_size HE.out
      have hns := HE.out.name.hi
      have HL := Lib.hid (show txTo x (k + 1) = txTo x k ++ lnT (it x.els k).name [(it x.els k).fam, (it x.els k).lev, (it x.els k).base] from rfl)
      have HBR := Lib.hid hb
      clear hc hb
      go_wp2_with (go_at_call 65; refine (cdLine_any (it x.els k).name _ 3 [(it x.els k).fam, (it x.els k).lev, (it x.els k).base] _ (lst_newg _ _ _ _ (by simp)) (by show 3 ≤ 100; omega) (by omega) HE.out.nums).mono ?_; rintro e w6 ⟨rfl, hb⟩; have HB6 := Lib.hid (Below_next (Below_next (Below_next HBR.out (below_alloc _ _)) (below_alloc _ _)) hb); clear hb)
      go_roundw
      case rel => exact ⟨k + 1, by omega, by go_num, by rw [HL.out], HB6.out⟩
      case measure => simp [intOf]; omega
    · obtain rfl : k = x.els.length := by omega
      clear hb
      go_wp2
      go_ret
      exact ⟨rfl, HB5.out⟩

noncomputable def txtR (x : Cd) : ByteArray := @ite _ (CdOk x) (Classical.propDecidable _) (txt x) ⟨#[]⟩
theorem txtR_yes {x : Cd} (h : CdOk x) : txtR x = txt x := by unfold txtR; exact @if_pos _ (Classical.propDecidable _) h _ _ _
theorem txtR_no {x : Cd} (h : ¬ CdOk x) : txtR x = ⟨#[]⟩ := by unfold txtR; exact @if_neg _ (Classical.propDecidable _) h _ _ _
theorem sCodeText_any (A L : Option Addr) (c d : Nat) (x : Cd) (w : World) (hr : CdAt w A L x) (hl : CdFits x) :
    Calls Tryd.prog 8 #[x.val A c L d] w fun e w' => e = .returned (.tuple #[.string (txtR x), .bool (pB (CdOk x))]) ∧ Below w.heap.size w w' := by
  obtain ⟨W, hW, hB⟩ := boxed 31 w A c L d x
  have HB0 := Lib.hid hB.below
  have HX0 := Lib.hid hB.at_
  have HR0 := Lib.hid (hr.below hB.below)
  have HL := Lib.hid hl
  clear hr hl hB
  unfold boxCd at hW
  unfold Cd.val
  go_enter Tryd.func8, Tryd.ntmps8
  go_wp2_with fail
  rw [← hW]
  clear hW
  refine (cdGood_any A L c d x W HR0.out HL.out).mono ?_
  rintro e w1 ⟨he, hb⟩
  have HB1 := Lib.hid (Below_next HB0.out hb)
  have HX1 := Lib.hid (HX0.out.next hb)
  have HR1 := Lib.hid (HR0.out.below hb)
  clear hb
  by_cases hok : CdOk x
  · rw [pB_yes hok] at he
    subst he
    have HOK := Lib.hid hok
    have HP := Lib.hid (pB_yes hok)
    have HV := Lib.hid (txtR_yes hok)
    clear hok
    obtain ⟨x0, x1, x2, x3, x4, x5⟩ := HX1.out.box
    go_wp2_with fail
    clear x0 x1 x2 x3 x4 x5
    refine (cdText_any A L c d x w1 HR1.out HOK.out).mono ?_
    rintro e w2 ⟨rfl, hb⟩
    have HB2 := Lib.hid (Below_next HB1.out hb)
    clear hb
    go_wp2_with fail
    go_ret2
    exact ⟨by rw [HV.out, HP.out]; rfl, HB2.out⟩
  · rw [pB_no hok] at he
    subst he
    have HP := Lib.hid (pB_no hok)
    have HV := Lib.hid (txtR_no hok)
    clear hok
    go_wp2
    go_ret2
    exact ⟨by rw [HV.out, HP.out]; rfl, HB1.out⟩

set_option maxHeartbeats 2000000 in
theorem iCodeText_any (A L : Option Addr) (c d : Nat) (x : Cd) (w : World) (hr : CdAt w A L x) (hl : CdFits x) (ht : Tab w) (hu : Tab10 w) :
    Calls Tryd.prog 10 #[x.val A c L d] w fun e w' => e = .returned (.tuple #[.string (txtR x), .bool (pB (CdOk x))]) ∧ Below w.heap.size w w' := by
  obtain ⟨W, hW, hB⟩ := boxed 31 w A c L d x
  have HB0 := Lib.hid hB.below
  have HX0 := Lib.hid hB.at_
  have HR0 := Lib.hid (hr.below hB.below)
  have HT0 := Lib.hid (ht.next hB.below)
  have HU0 := Lib.hid (hu.next hB.below)
  have HL := Lib.hid hl
  clear hr hl hB ht hu
  unfold boxCd at hW
  unfold Cd.val
  go_enter Tryd.func10, Tryd.ntmps10
  go_wp2_with fail
  rw [← hW]
  clear hW
  refine (iIsCode_any A L c d x W HR0.out HL.out HT0.out).mono ?_
  rintro e w1 ⟨he, hb⟩
  have HB1 := Lib.hid (Below_next HB0.out hb)
  have HX1 := Lib.hid (HX0.out.next hb)
  have HR1 := Lib.hid (HR0.out.below hb)
  have HU1 := Lib.hid (HU0.out.next hb)
  clear hb
  by_cases hok : CdOk x
  · rw [pB_yes hok] at he
    subst he
    have HOK := Lib.hid hok
    have HP := Lib.hid (pB_yes hok)
    have HV := Lib.hid (txtR_yes hok)
    clear hok
    go_wp2_with fail
    have HXd := Lib.hid (HX1.out.next (below_drewn _))
    have s1 := head_size HOK.out
    have s2 := lims_size HOK.out
    have n1 : ¬ 9223372036854775807 < (lnT ⟨#[99, 111, 100, 101]⟩ [x.rep, x.bon, x.kee, x.fal]).size + (lnT ⟨#[108, 105, 109, 105, 116, 115]⟩ x.lims).size := by omega
    have hL5 : x.lims.length ≤ 100 := by have := HOK.out.lims.len; omega
    go_region_held3 (fun w' => w'.cell? ⟨w.heap.size, 0, none⟩ = some (.slice A x.els.length c) ∧ w'.cell? ⟨w.heap.size, 1, none⟩ = some (.slice L x.lims.length d) ∧ w'.cell? ⟨w.heap.size, 2, none⟩ = some (.int .i64 x.rep) ∧ w'.cell? ⟨w.heap.size, 3, none⟩ = some (.int .i64 x.bon) ∧ w'.cell? ⟨w.heap.size, 4, none⟩ = some (.int .i64 x.kee) ∧ w'.cell? ⟨w.heap.size, 5, none⟩ = some (.int .i64 x.fal))
      (first | exact box1 HXd.out | exact box1 (HX1.out.next (below_ad _ _)) | exact box1 HX3.out | exact box1 HX4.out)
      (first
        | (go_at_call 37; refine (wordLine_any ⟨#[108, 105, 109, 105, 116, 115]⟩ L d x.lims _ HR3.out.lims (by omega) (by decide) HOK.out.numLims HU3.out).mono ?_; rintro e w4 ⟨rfl, hb⟩; have HB4 := Lib.hid (Below_next HB3.out hb); have HX4 := Lib.hid (HX3.out.next hb); have HR4 := Lib.hid (HR3.out.below hb); have HU4 := Lib.hid (HU3.out.next hb); clear hb)
        | (go_at_call 37; refine (wordLine_any ⟨#[99, 111, 100, 101]⟩ _ 4 [x.rep, x.bon, x.kee, x.fal] _ (lst_newd _ _ _) (by show 4 ≤ 100; omega) (by decide) HOK.out.head (HU1.out.next (below_ad _ _))).mono ?_; rintro e w3 ⟨rfl, hb⟩; have HB3 := Lib.hid (Below_next (Below_next HB1.out (below_ad _ _)) hb); have HX3 := Lib.hid ((HX1.out.next (below_ad _ _)).next hb); have HR3 := Lib.hid ((HR1.out.below (below_ad _ _)).below hb); have HU3 := Lib.hid ((HU1.out.next (below_ad _ _)).next hb); clear hb)
        )
    obtain ⟨x0, x1, x2, x3, x4, x5⟩ := HX4.out.box
    go_wp2
    clear x0 x1 x2 x3 x4 x5 s1 s2 hL5 n1
    go_loopw [4, 27] (fun s i wr => ∃ k : Nat, k ≤ x.els.length ∧ i = .int .i64 k ∧ s = .string (txTo x k) ∧ Below w4.heap.size w4 wr) (fun _ i _ => x.els.length - (intOf i).toNat)
    case atStart => exact ⟨0, Nat.zero_le _, rfl, rfl, Below.refl _ _⟩
    case round =>
      obtain ⟨k, hk, rfl, rfl, hb⟩ := hrel
      have HB5 := Lib.hid (Below_next HB4.out hb)
      have hsz := txTo_size HOK.out k hk
      have h24 := HOK.out.els.hi
      by_cases hlt : k < x.els.length
      · obtain ⟨b, o, rfl, hbl, hc⟩ := HR4.out.els.el (by omega)
        obtain ⟨c0, c1, c2, c3⟩ := (hc k hlt).below hb hbl
        have HE := Lib.hid (HOK.out.els.el k hlt)
        have hes := el_size HE.out
        have hns := HE.out.name.hi
        have HL := Lib.hid (show txTo x (k + 1) = txTo x k ++ lnT (it x.els k).name [(it x.els k).fam, (it x.els k).lev, (it x.els k).base] from rfl)
        have HBR := Lib.hid hb
        have HU5 := Lib.hid (HU4.out.next hb)
        clear hc hb
        go_wp2_with (go_at_call 37; refine (wordLine_any (it x.els k).name _ 3 [(it x.els k).fam, (it x.els k).lev, (it x.els k).base] _ (lst_newg _ _ _ _ (by simp)) (by show 3 ≤ 100; omega) (by omega) HE.out.nums ((HU5.out.next (below_alloc _ _)).next (below_alloc _ _))).mono ?_; rintro e w6 ⟨rfl, hb⟩; have HB6 := Lib.hid (Below_next (Below_next (Below_next HBR.out (below_alloc _ _)) (below_alloc _ _)) hb); clear hb)
        go_roundw
        case rel => exact ⟨k + 1, by omega, by go_num, by rw [HL.out], HB6.out⟩
        case measure => simp [intOf]; omega
      · obtain rfl : k = x.els.length := by omega
        clear hb
        go_wp2
        go_ret2
        exact ⟨by rw [HV.out, HP.out]; rfl, HB5.out⟩
  · rw [pB_no hok] at he
    subst he
    have HP := Lib.hid (pB_no hok)
    have HV := Lib.hid (txtR_no hok)
    clear hok
    go_wp2
    go_ret2
    exact ⟨by rw [HV.out, HP.out]; rfl, HB1.out⟩
end Go.Proofs.YtnlcdfaojcnkpaaDoor
