/- The text of an item, in the program. -/
import Derived.Test.YtjnimmjlmfhpdaaItemX
import Derived.Test.YtjnimmjlmfhpdaaShelf
namespace Go.Proofs.Ytjnimmjlmfhpdaa
open Go.ChangeShapes Go.WideShapes Go.ChangeAt Go.RowKit
set_option linter.unusedVariables false

theorem signOf_any (n : Nat) (w : World) (hn : n < 4) :
    Calls Try.prog 57 #[.int .i64 (n : Int)] w fun e w' => e = .returned (.string (sgn n)) ∧ w' = w := by
  match n, hn with
  | 0, _ =>
    go_enter Try.func57, Try.ntmps57
    go_wp2
    go_ret
    exact ⟨rfl, rfl⟩
  | 1, _ =>
    go_enter Try.func57, Try.ntmps57
    go_wp2
    go_ret
    exact ⟨rfl, rfl⟩
  | 2, _ =>
    go_enter Try.func57, Try.ntmps57
    go_wp2
    go_ret
    exact ⟨rfl, rfl⟩
  | 3, _ =>
    go_enter Try.func57, Try.ntmps57
    go_wp2
    go_ret
    exact ⟨rfl, rfl⟩

/-- The words of an item. -/
structure WordsTo (ns : List ByteArray) (ms : List Int) (k : Nat) (ys : List ByteArray) : Prop where
  each : ∀ j, j < k → it ys j = wordT ns ms j
theorem join_txt (ns : List ByteArray) (ms : List Int) (ys : List ByteArray) (hy : ys.length = ns.length) (h : WordsTo ns ms ns.length ys) (h2 : 1 ≤ ns.length) (h3 : ns.length ≤ 3) :
    (⟨(Lib.join (ys.map (·.data.toList)) [43]).toArray⟩ : ByteArray) = txtTo ns ms ns.length := by
  have h0 := h.each
  clear h
  generalize ns.length = n at *
  match ys, hy with
  | [], hy => simp at hy; omega
  | [a], hy =>
    obtain rfl : 1 = n := hy
    have ha : a = wordT ns ms 0 := h0 0 (by omega)
    subst ha
    apply ByteArray.ext
    apply Array.ext'
    simp [Lib.join_cons, Lib.joinTail, txtTo, ByteArray.data_append]
  | [a, b], hy =>
    obtain rfl : 2 = n := hy
    have ha : a = wordT ns ms 0 := h0 0 (by omega)
    have hb : b = wordT ns ms 1 := h0 1 (by omega)
    subst ha hb
    apply ByteArray.ext
    apply Array.ext'
    simp [Lib.join_cons, Lib.joinTail, txtTo, ByteArray.data_append]
  | [a, b, c], hy =>
    obtain rfl : 3 = n := hy
    have ha : a = wordT ns ms 0 := h0 0 (by omega)
    have hb : b = wordT ns ms 1 := h0 1 (by omega)
    have hc : c = wordT ns ms 2 := h0 2 (by omega)
    subst ha hb hc
    apply ByteArray.ext
    apply Array.ext'
    simp [Lib.join_cons, Lib.joinTail, txtTo, ByteArray.data_append]
  | a :: b :: c :: d :: r, hy => simp at hy; omega
theorem join_any (g : Nat) (ns : List ByteArray) (ms : List Int) (ys : List ByteArray) (w : World) (hok : ItOk ns ms) (hy : ys.length = ns.length) (h : WordsTo ns ms ns.length ys) (ho : OwnAt w g 0 ys) (hg : g < w.heap.size) :
    Calls Try.prog 58 #[.slice (some ⟨g, 0, none⟩) ns.length ns.length, .string ⟨#[43]⟩] w fun e w' => e = .returned (.string (txtTo ns ms ns.length)) ∧ Below w.heap.size w w' := by
  have h1 := hok.lo
  have h2 := hok.hi
  have hc : ∀ (j : Nat) x, ys[j]? = some x → w.cell? ⟨g, 0 + j, none⟩ = some (.string x) := fun j x hx => by
    have hj : j < ys.length := (List.getElem?_eq_some_iff.1 hx).1
    have := (ho.str j hj).c0
    rw [it_get ys j hj] at hx
    rw [← Option.some.inj hx]
    exact this
  have hj := join_txt ns ms ys hy h h1 h2
  have hsz := txtTo_size ns ms hok ns.length (Nat.le_refl _)
  rw [← hj] at hsz ⊢
  have := Try.strings_Join g 0 ns.length ys ⟨#[43]⟩ w hc hg (by omega) (by omega) (by
    have e : (Lib.join (ys.map (·.data.toList)) [43]).length = (⟨(Lib.join (ys.map (·.data.toList)) [43]).toArray⟩ : ByteArray).size := by
      show _ = (List.toArray _).size
      simp
    show (Lib.join (ys.map (·.data.toList)) [43]).length ≤ _
    omega)
  rw [hy] at this
  exact this
end Go.Proofs.Ytjnimmjlmfhpdaa
