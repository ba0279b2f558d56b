/- TableText of the program: what the calls return. -/
import Derived.Test.YtnppkdnmkhoeeaaDoorAppI
import Derived.Test.YtnppkdnmkhoeeaaDoorTab
namespace Go.Proofs.YtnppkdnmkhoeeaaDoor
open Go.ChangeShapes Go.WideShapes Go.ChangeAt Go.RowKit
set_option linter.unusedVariables false
set_option maxRecDepth 100000

/-- numbers that an int64 holds -/
def Wide (xs : List Int) : Prop := ∀ x ∈ xs, -9223372036854775808 ≤ x ∧ x ≤ 9223372036854775807

theorem Wide.get {xs : List Int} (h : Wide xs) (i : Nat) : -9223372036854775808 ≤ xs.getD i 0 ∧ xs.getD i 0 ≤ 9223372036854775807 := by
  by_cases hi : i < xs.length
  · rw [List.getD_eq_getElem?_getD, List.getElem?_eq_getElem hi]; exact h _ (List.getElem_mem _)
  · rw [getD_far _ _ (by omega)]; omega

theorem Wide.take {xs : List Int} (h : Wide xs) (k : Nat) : Wide (xs.take k) := fun x hx => h x (List.mem_of_mem_take hx)

theorem Nums.wide {xs : List Int} (h : Nums xs) : Wide xs := fun x hx => (by have := h x hx; omega)

theorem itoa_len64 (n : Int) (h0 : -9223372036854775808 ≤ n) (h1 : n ≤ 9223372036854775807) : (Lib.itoa n).length ≤ 21 := Lib.itoa_length_le n h0 h1

theorem tailT_len64 (r : List Int) (h : Wide r) : (tailT r).length ≤ 22 * r.length := by
  induction r with
  | nil => simp [tailT]
  | cons x t ih =>
    rw [tailT_cons, List.length_cons, List.length_append, List.length_cons]
    have h1 := itoa_len64 x (h x List.mem_cons_self).1 (h x List.mem_cons_self).2
    have h2 := ih fun y hy => h y (List.mem_cons_of_mem _ hy)
    omega

theorem jn_len64 (f : Int) (r : List Int) (h0 : -9223372036854775808 ≤ f) (h1 : f ≤ 9223372036854775807) (h : Wide r) : (jn (f :: r)).length ≤ 22 * r.length + 21 := by
  rw [jn, List.length_append]
  have h1 := itoa_len64 f h0 h1
  have h2 := tailT_len64 r h
  omega

theorem jn_take (f : Int) (xs : List Int) (k : Nat) (hk : k < xs.length) : jn (f :: xs.take (k + 1)) = jn (f :: xs.take k) ++ [32] ++ Lib.itoa (xs.getD k 0) := by
  rw [List.take_add_one, List.getElem?_eq_getElem hk]
  show jn (f :: (xs.take k ++ [xs[k]])) = _
  rw [jn_snoc]
  simp [List.getD, hk]

theorem OwnM.mono {base b2 : Nat} {w : World} {v : Value} {l : List UInt8} (h : OwnM base w v l) (hb : b2 ≤ base) : OwnM b2 w v l := by
  obtain ⟨g, cap, hv, hg, hr⟩ := h
  exact ⟨g, cap, hv, by omega, hr⟩

theorem bw_below (w : World) (s : ByteArray) : Below w.heap.size w (Lib.bytesWorld w 5 s) := Joins.below_bytesWorld _ _ _ _ (Nat.le_refl _)

theorem Tab.lt {w : World} (h : Tab w) : (0 : Nat) < w.heap.size := by
  have := World.var?_cell gTab h 0
  exact block_lt (p := ⟨0, 0, none⟩) (v := .int .u64 1) (by simpa [Lib.pow10Tab] using this)

end Go.Proofs.YtnppkdnmkhoeeaaDoor
