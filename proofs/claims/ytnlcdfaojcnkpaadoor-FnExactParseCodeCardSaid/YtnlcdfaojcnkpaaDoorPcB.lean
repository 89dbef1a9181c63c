/- What the model and the program read of a code's lines, and that both read a code out of its text. -/
import Derived.Test.YtnlcdfaojcnkpaaDoorPcA
import Derived.Test.YtnlcdfaojcnkpaaDoorCdW
namespace Go.Proofs.YtnlcdfaojcnkpaaDoor
open Go.ChangeShapes Go.WideShapes Go.ChangeAt Go.RowKit Go.PlainAid Go.Sort
set_option linter.unusedVariables false

/-- The words of a line behind the first one, and the first one. -/
def wds (l : List UInt8) : List (List UInt8) := (splitL 32 l).tail
def hdW (l : List UInt8) : ByteArray := ⟨((splitL 32 l).headD []).toArray⟩
/-- The numbers that the model reads, and those that the program reads. -/
def rdS (w : List UInt8) : Int := readB ⟨w.toArray⟩
def nmsS (l : List UInt8) : List Int := (wds l).map rdS
def rdI (w : List UInt8) : Int := match Lib.atoiAll w with | .ok v => v | _ => 0
def OkI (w : List UInt8) : Prop := ∃ v, Lib.atoiAll w = .ok v
def nmsI (l : List UInt8) : List Int := (wds l).map rdI
def LineI (l : List UInt8) : Prop := ∀ w ∈ wds l, OkI w
/-- An element out of a line's numbers. -/
def elN (nms : List UInt8 → List Int) (l : List UInt8) : El := ⟨hdW l, it (nms l) 0, it (nms l) 1, it (nms l) 2⟩
def midL (ls : List (List UInt8)) : List (List UInt8) := (ls.drop 2).take (ls.length - 3)
def parN (nms : List UInt8 → List Int) (ls : List (List UInt8)) : Cd :=
  ⟨(midL ls).map (elN nms), nms (it ls 1), it (nms (it ls 0)) 0, it (nms (it ls 0)) 1, it (nms (it ls 0)) 2, it (nms (it ls 0)) 3⟩
structure ParS (ls : List (List UInt8)) : Prop where
  lo : 4 ≤ ls.length
  hi : ls.length ≤ 27
  head : (nmsS (it ls 0)).length = 4
  each : ∀ l ∈ midL ls, (nmsS l).length = 3
structure ParI (ls : List (List UInt8)) : Prop where
  lo : 3 ≤ ls.length
  l0 : LineI (it ls 0)
  head : (nmsI (it ls 0)).length = 4
  l1 : LineI (it ls 1)
  each : ∀ l ∈ midL ls, LineI l ∧ (nmsI l).length = 3

theorem decFrom_app : ∀ (l r : List UInt8) (n m : Nat), Lib.decFrom n l = some m → Lib.decFrom n (l ++ r) = Lib.decFrom m r
  | [], r, n, m, h => by
    simp only [Lib.decFrom, Option.some.injEq] at h
    rw [h, List.nil_append]
  | b :: l, r, n, m, h => by
    simp only [Lib.decFrom, List.cons_append] at h ⊢
    cases hd : Lib.digitVal b with
    | none => simp [hd] at h
    | some d =>
      simp only [hd] at h ⊢
      exact decFrom_app l r _ m h
theorem digitVal_of (x : UInt8) (d : Nat) (h : x.toNat = 48 + d) (hd : d ≤ 9) : Lib.digitVal x = some d := by
  unfold Lib.digitVal
  rw [if_pos (by omega), h]
  congr 1
  omega
theorem digit_nat (d : Nat) (h : d < 10) : (UInt8.ofNat (48 + d)).toNat = 48 + d := by
  rw [UInt8.toNat_ofNat']
  omega
theorem decFrom_dec : ∀ (k a : Nat), a ≤ k → Lib.decFrom 0 (Lib.decDigits a) = some a := by
  refine dec_ind _ ?_ ?_
  · intro d hd
    rw [Lib.decDigits, dif_pos hd]
    simp only [Lib.decFrom, digitVal_of _ d (digit_nat d hd) (by omega)]
    simp
  · intro a ha ih
    rw [Lib.decDigits, dif_neg (by omega), decFrom_app _ _ _ _ ih]
    simp only [Lib.decFrom, digitVal_of _ (a % 10) (digit_nat _ (by omega)) (by omega)]
    congr 1
    omega
theorem dec_ne (a : Nat) : Lib.decDigits a ≠ [] := by
  rw [Lib.decDigits]
  split <;> simp
theorem atoi_dec (a : Nat) (h : a ≤ 99999) : Lib.atoiAll (Lib.decDigits a) = .ok (a : Int) := by
  have hl := dec_len 5 a (by omega)
  rw [Lib.atoiAll_short _ (by omega)]
  have hd := dig_dec a
  have hn : Lib.decNat (Lib.decDigits a) = some a := by
    unfold Lib.decNat
    rw [if_neg (by simpa using dec_ne a)]
    exact decFrom_dec a a (Nat.le_refl _)
  generalize Lib.decDigits a = l at hd hn hl ⊢
  match l, hd, hn with
  | [], _, hn => simp [Lib.decNat] at hn
  | b :: r, hd, hn =>
    have hb := hd b (List.mem_cons_self ..)
    have h45 : ¬ (b == 45) = true := fun e => by
      rw [beq_iff_eq] at e
      subst e
      exact absurd hb.1 (by decide)
    have h43 : ¬ (b == 43) = true := fun e => by
      rw [beq_iff_eq] at e
      subst e
      exact absurd hb.1 (by decide)
    simp only [Lib.atoi]
    rw [if_neg h45, if_neg h43, hn]
    rfl
theorem rdS_dec (v : Int) (h0 : 0 ≤ v) (h : v ≤ 2000) : rdS (Lib.decDigits v.toNat) = v := by
  unfold rdS
  rw [readB_dec _ (by omega)]
  omega
theorem rdI_dec (v : Int) (h0 : 0 ≤ v) (h : v ≤ 2000) : rdI (Lib.decDigits v.toNat) = v := by
  unfold rdI
  rw [atoi_dec _ (by omega)]
  show (v.toNat : Int) = v
  omega
theorem mem_num {l : List Int} (h : NumOk l) {v : Int} (hv : v ∈ l) : 0 ≤ v ∧ v ≤ 2000 := by
  obtain ⟨i, hi, e⟩ := List.mem_iff_getElem.1 hv
  have := h i hi
  rw [it, List.getD_eq_getElem?_getD, List.getElem?_eq_getElem hi, e] at this
  exact this
theorem wds_lnL {l : List Int} {word : List UInt8} (hw : NoB 32 word) : wds (lnL word l) = l.map (fun v => Lib.decDigits v.toNat) := by
  unfold wds
  rw [split_lnL l word hw]
  rfl
theorem hdW_lnL {l : List Int} {word : List UInt8} (hw : NoB 32 word) : hdW (lnL word l) = ⟨word.toArray⟩ := by
  unfold hdW
  rw [split_lnL l word hw]
  rfl
theorem map_back {l : List Int} {f : List UInt8 → Int} (h : ∀ v ∈ l, f (Lib.decDigits v.toNat) = v) : (l.map (fun v => Lib.decDigits v.toNat)).map f = l := by
  rw [List.map_map]
  have : l.map (f ∘ fun v => Lib.decDigits v.toNat) = l.map id := List.map_congr_left (fun v hv => h v hv)
  rw [this, List.map_id]
theorem nmsS_lnL {l : List Int} {word : List UInt8} (hw : NoB 32 word) (h : NumOk l) : nmsS (lnL word l) = l := by
  unfold nmsS
  rw [wds_lnL hw]
  exact map_back (fun v hv => rdS_dec v (mem_num h hv).1 (mem_num h hv).2)
theorem nmsI_lnL {l : List Int} {word : List UInt8} (hw : NoB 32 word) (h : NumOk l) : nmsI (lnL word l) = l := by
  unfold nmsI
  rw [wds_lnL hw]
  exact map_back (fun v hv => rdI_dec v (mem_num h hv).1 (mem_num h hv).2)
theorem lineI_lnL {l : List Int} {word : List UInt8} (hw : NoB 32 word) (h : NumOk l) : LineI (lnL word l) := fun w hwd => by
  rw [wds_lnL hw] at hwd
  obtain ⟨v, hv, rfl⟩ := List.mem_map.1 hwd
  exact ⟨_, atoi_dec _ (by have := mem_num h hv; omega)⟩
theorem code_noB : NoB 32 codeB := by unfold NoB codeB; decide
theorem lim_noB : NoB 32 limB := by unfold NoB limB; decide
theorem mid_lns (x : Cd) : midL (lnsOf x ++ [[]]) = x.els.map elLn := by
  unfold midL lnsOf
  simp only [List.cons_append, List.drop_succ_cons, List.drop_zero, List.length_cons, List.length_append, List.length_nil, List.length_map]
  rw [show x.els.length + (0 + 1) + 1 + 1 - 3 = x.els.length by omega]
  have : x.els.length = (x.els.map elLn).length := (List.length_map ..).symm
  rw [this, List.take_left']
  rfl
theorem elN_back {nms : List UInt8 → List Int} (hn : ∀ {l : List Int} {word : List UInt8}, NoB 32 word → NumOk l → nms (lnL word l) = l) {e : El} (h : ElOk e) : elN nms (elLn e) = e := by
  unfold elN elLn
  rw [hn (name_noB h.name 32 (by decide)) h.nums, hdW_lnL (name_noB h.name 32 (by decide))]
  rfl
theorem els_back {nms : List UInt8 → List Int} (hn : ∀ {l : List Int} {word : List UInt8}, NoB 32 word → NumOk l → nms (lnL word l) = l) {x : Cd} (h : CdOk x) : (x.els.map elLn).map (elN nms) = x.els := by
  rw [List.map_map]
  have : x.els.map (elN nms ∘ elLn) = x.els.map id := List.map_congr_left (fun e he => by
    obtain ⟨j, hj, rfl⟩ := mem_elsI he
    exact elN_back hn (h.els.el j hj))
  rw [this, List.map_id]
theorem parN_back {nms : List UInt8 → List Int} (hn : ∀ {l : List Int} {word : List UInt8}, NoB 32 word → NumOk l → nms (lnL word l) = l) {x : Cd} (h : CdOk x) : parN nms (lnsOf x ++ [[]]) = x := by
  unfold parN
  rw [mid_lns, els_back hn h]
  show Cd.mk x.els (nms (lnL limB x.lims)) (it (nms (lnL codeB [x.rep, x.bon, x.kee, x.fal])) 0) (it (nms (lnL codeB [x.rep, x.bon, x.kee, x.fal])) 1) (it (nms (lnL codeB [x.rep, x.bon, x.kee, x.fal])) 2) (it (nms (lnL codeB [x.rep, x.bon, x.kee, x.fal])) 3) = x
  rw [hn lim_noB h.numLims, hn code_noB h.head]
  rfl
theorem lns_len (x : Cd) : (lnsOf x ++ [[]]).length = x.els.length + 3 := by simp [lnsOf]
theorem parS_of {x : Cd} (h : CdOk x) : ParS (lnsOf x ++ [[]]) := by
  have h1 := h.els.lo
  have h2 := h.els.hi
  refine ⟨by rw [lns_len]; omega, by rw [lns_len]; omega, ?_, ?_⟩
  · show (nmsS (lnL codeB [x.rep, x.bon, x.kee, x.fal])).length = 4
    rw [nmsS_lnL code_noB h.head]
    rfl
  · rw [mid_lns]
    intro l hl
    obtain ⟨e, he, rfl⟩ := List.mem_map.1 hl
    obtain ⟨j, hj, rfl⟩ := mem_elsI he
    unfold elLn
    rw [nmsS_lnL (name_noB (h.els.el j hj).name 32 (by decide)) (h.els.el j hj).nums]
    rfl
theorem parI_of {x : Cd} (h : CdOk x) : ParI (lnsOf x ++ [[]]) := by
  have h1 := h.els.lo
  refine ⟨by rw [lns_len]; omega, ?_, ?_, ?_, ?_⟩
  · exact lineI_lnL code_noB h.head
  · show (nmsI (lnL codeB [x.rep, x.bon, x.kee, x.fal])).length = 4
    rw [nmsI_lnL code_noB h.head]
    rfl
  · exact lineI_lnL lim_noB h.numLims
  · rw [mid_lns]
    intro l hl
    obtain ⟨e, he, rfl⟩ := List.mem_map.1 hl
    obtain ⟨j, hj, rfl⟩ := mem_elsI he
    refine ⟨lineI_lnL (name_noB (h.els.el j hj).name 32 (by decide)) (h.els.el j hj).nums, ?_⟩
    unfold elLn
    rw [nmsI_lnL (name_noB (h.els.el j hj).name 32 (by decide)) (h.els.el j hj).nums]
    rfl
/-- A string is the text of a code; then it's this one. -/
def IsTx (s : ByteArray) : Prop := ∃ x, CdOk x ∧ txt x = s
noncomputable def txC (s : ByteArray) : Cd := @ite _ (IsTx s) (Classical.propDecidable _) (parN nmsS (splitL 10 s.data.toList)) Cd.zero
theorem isTx_split {s : ByteArray} (h : IsTx s) : ∃ x, CdOk x ∧ txt x = s ∧ splitL 10 s.data.toList = lnsOf x ++ [[]] := by
  obtain ⟨x, h1, rfl⟩ := h
  exact ⟨x, h1, rfl, txt_split h1⟩
theorem txC_yes {s : ByteArray} {x : Cd} (h : CdOk x) (e : txt x = s) : txC s = x := by
  have ht : IsTx s := ⟨x, h, e⟩
  unfold txC
  rw [@if_pos _ (Classical.propDecidable _) ht _ _ _, ← e, txt_split h]
  exact parN_back (fun hw hn => nmsS_lnL hw hn) h
theorem txC_no {s : ByteArray} (h : ¬ IsTx s) : txC s = Cd.zero := by
  unfold txC
  exact @if_neg _ (Classical.propDecidable _) h _ _ _
theorem isTx_S (s : ByteArray) : IsTx s ↔ ParS (splitL 10 s.data.toList) ∧ CdOk (parN nmsS (splitL 10 s.data.toList)) ∧ txt (parN nmsS (splitL 10 s.data.toList)) = s := by
  constructor
  · intro h
    obtain ⟨x, h1, h2, h3⟩ := isTx_split h
    rw [h3, parN_back (fun hw hn => nmsS_lnL hw hn) h1]
    exact ⟨parS_of h1, h1, h2⟩
  · exact fun h => ⟨_, h.2.1, h.2.2⟩
theorem isTx_I (s : ByteArray) : IsTx s ↔ ParI (splitL 10 s.data.toList) ∧ CdOk (parN nmsI (splitL 10 s.data.toList)) ∧ txt (parN nmsI (splitL 10 s.data.toList)) = s := by
  constructor
  · intro h
    obtain ⟨x, h1, h2, h3⟩ := isTx_split h
    rw [h3, parN_back (fun hw hn => nmsI_lnL hw hn) h1]
    exact ⟨parI_of h1, h1, h2⟩
  · exact fun h => ⟨_, h.2.1, h.2.2⟩
theorem txC_S {s : ByteArray} (h : IsTx s) : txC s = parN nmsS (splitL 10 s.data.toList) := by
  have := (isTx_S s).1 h
  exact txC_yes this.2.1 this.2.2
theorem txC_I {s : ByteArray} (h : IsTx s) : txC s = parN nmsI (splitL 10 s.data.toList) := by
  have := (isTx_I s).1 h
  exact txC_yes this.2.1 this.2.2
theorem txC_ok {s : ByteArray} (h : IsTx s) : CdOk (txC s) := by
  rw [txC_S h]
  exact ((isTx_S s).1 h).2.1
/-- The text of a code is short. -/
theorem dec_1 (v : Int) (h : v < 10) : (DI v).size ≤ 1 := by have := dec_len 0 v.toNat; show (Lib.decDigits v.toNat).toArray.size ≤ 1; rw [List.size_toArray, Lib.decDigits, dif_pos (by omega)]; simp
theorem dec_k (k : Nat) (v : Int) (h0 : 0 ≤ v) (h : v < 10 ^ (k + 1)) : (DI v).size ≤ k + 1 := by
  have key : ∀ k n, n < 10 ^ (k + 1) → (Lib.decDigits n).length ≤ k + 1 := by
    intro k
    induction k with
    | zero => intro n hn; rw [Lib.decDigits, dif_pos (by omega)]; simp
    | succ k ih =>
      intro n hn
      by_cases h : n < 10
      · rw [Lib.decDigits, dif_pos h]; simp
      · rw [Lib.decDigits, dif_neg h, List.length_append]
        have := ih (n / 10) (by rw [Nat.pow_succ] at hn; omega)
        simp
        omega
  show (Lib.decDigits v.toNat).toArray.size ≤ k + 1
  rw [List.size_toArray]
  refine key k v.toNat ?_
  have : ((10 ^ (k + 1) : Nat) : Int) = (10 : Int) ^ (k + 1) := by push_cast; rfl
  omega
theorem lnTo_len (word : ByteArray) (l : List Int) (B : Nat) (h : ∀ i, i < l.length → (DI (it l i)).size ≤ B) : ∀ k, k ≤ l.length → (lnTo word l k).size ≤ word.size + k * (B + 1)
  | 0, _ => by simp [lnTo]
  | k + 1, hk => by
    have ih := lnTo_len word l B h k (by omega)
    have := h k (by omega)
    show (lnTo word l k ++ (⟨#[32]⟩ ++ DI (it l k))).size ≤ _
    rw [ByteArray.size_append, ByteArray.size_append, Nat.succ_mul]
    have : (⟨#[32]⟩ : ByteArray).size = 1 := rfl
    omega
theorem head_len {x : Cd} (h : CdOk x) : (lnT ⟨#[99, 111, 100, 101]⟩ [x.rep, x.bon, x.kee, x.fal]).size ≤ 18 := by
  have h1 := dec_k 0 x.rep (by have := h.rep; omega) (by have := h.rep; omega)
  have h2 := dec_k 1 x.bon (by have := h.bon; omega) (by have := h.bon; omega)
  have h3 := dec_k 2 x.kee (by have := h.kee; omega) (by have := h.kee; omega)
  have h4 := dec_k 2 x.fal (by have := h.fal; omega) (by have := h.fal; omega)
  show ((((((⟨#[99, 111, 100, 101]⟩ : ByteArray) ++ (⟨#[32]⟩ ++ DI x.rep)) ++ (⟨#[32]⟩ ++ DI x.bon)) ++ (⟨#[32]⟩ ++ DI x.kee)) ++ (⟨#[32]⟩ ++ DI x.fal)) ++ ⟨#[10]⟩).size ≤ 18
  simp only [ByteArray.size_append]
  have e1 : (⟨#[99, 111, 100, 101]⟩ : ByteArray).size = 4 := rfl
  have e2 : (⟨#[32]⟩ : ByteArray).size = 1 := rfl
  have e3 : (⟨#[10]⟩ : ByteArray).size = 1 := rfl
  omega
theorem lims_len {x : Cd} (h : CdOk x) : (lnT ⟨#[108, 105, 109, 105, 116, 115]⟩ x.lims).size ≤ 17 := by
  have h1 := lnTo_len ⟨#[108, 105, 109, 105, 116, 115]⟩ x.lims 1 (fun i hi => dec_1 _ (by have := h.lims.lim i hi; omega)) x.lims.length (Nat.le_refl _)
  have h5 := h.lims.len
  unfold lnT
  rw [ByteArray.size_append]
  have e1 : (⟨#[108, 105, 109, 105, 116, 115]⟩ : ByteArray).size = 6 := rfl
  have e3 : (⟨#[10]⟩ : ByteArray).size = 1 := rfl
  omega
theorem el_len {e : El} (h : ElOk e) : (lnT e.name [e.fam, e.lev, e.base]).size ≤ 15 := by
  have h0 := h.name.hi
  have h1 := dec_k 0 e.fam (by have := h.fam; omega) (by have := h.fam; omega)
  have h2 := dec_k 0 e.lev (by have := h.lev; omega) (by have := h.lev; omega)
  have h3 := dec_k 3 e.base (by have := h.base; omega) (by have := h.base; omega)
  show ((((e.name ++ (⟨#[32]⟩ ++ DI e.fam)) ++ (⟨#[32]⟩ ++ DI e.lev)) ++ (⟨#[32]⟩ ++ DI e.base)) ++ ⟨#[10]⟩).size ≤ 15
  simp only [ByteArray.size_append]
  have e2 : (⟨#[32]⟩ : ByteArray).size = 1 := rfl
  have e3 : (⟨#[10]⟩ : ByteArray).size = 1 := rfl
  omega
theorem txTo_len {x : Cd} (h : CdOk x) : ∀ k, k ≤ x.els.length → (txTo x k).size ≤ 35 + k * 15
  | 0, _ => by
    have h1 := head_len h
    have h2 := lims_len h
    rw [txTo, ByteArray.size_append]
    omega
  | k + 1, hk => by
    have ih := txTo_len h k (by omega)
    have h1 := el_len (h.els.el k (by omega))
    rw [txTo, ByteArray.size_append]
    omega
theorem isTx_len {s : ByteArray} (h : IsTx s) : s.size ≤ 395 := by
  obtain ⟨x, h1, rfl⟩ := h
  have := txTo_len h1 x.els.length (Nat.le_refl _)
  have h2 := h1.els.hi
  unfold txt
  omega
end Go.Proofs.YtnlcdfaojcnkpaaDoor
