/- Policies: the program's text of a policy. -/
import Derived.Test.YtnppkdnmkhoeeaaDoorPty
import Derived.Test.YtnppkdnmkhoeeaaDoorTxt
import Derived.Test.YtnppkdnmkhoeeaaDoorWrd
import Derived.Lib.Join
namespace Go.Proofs.YtnppkdnmkhoeeaaDoor
open Go.ChangeShapes Go.WideShapes Go.ChangeAt Go.RowKit
set_option linter.unusedVariables false
set_option maxRecDepth 100000

theorem OwnS.on {base : Nat} {w w' : World} {v : Value} {xs : List ByteArray} (h : OwnS base w v xs) (hb : Below w.heap.size w w') : OwnS base w' v xs := by
  obtain ⟨h0, h1 | ⟨g, cap, cur, hv, hg, hh, r⟩⟩ := h
  · exact ⟨h0, .inl h1⟩
  · have hlt : g < w.heap.size := by
      by_cases hl : g < w.heap.size
      · exact hl
      · have : w.heap[g]? = none := by simp; omega
        rw [this] at hh; cases hh
    exact ⟨h0, .inr ⟨g, cap, cur, hv, hg, by rw [hb.block g hlt]; exact hh, r⟩⟩

theorem idx5 (k x n s u : Int) (i : Nat) (hi : i < 5) (W : World) : (Instr.index 36 (.agg #[.int .i64 k, .int .i64 x, .int .i64 n, .int .i64 s, .int .i64 u]) (.int .i64 i)).run Tryd.prog W = .ok (.int .i64 ([k, x, n, s, u].getD i 0)) W := by
  have h0 : ∀ W : World, (Instr.index 36 (.agg #[.int .i64 k, .int .i64 x, .int .i64 n, .int .i64 s, .int .i64 u]) (.int .i64 0)).run Tryd.prog W = .ok (.int .i64 k) W := fun _ => by kernel_rfl
  have h1 : ∀ W : World, (Instr.index 36 (.agg #[.int .i64 k, .int .i64 x, .int .i64 n, .int .i64 s, .int .i64 u]) (.int .i64 1)).run Tryd.prog W = .ok (.int .i64 x) W := fun _ => by kernel_rfl
  have h2 : ∀ W : World, (Instr.index 36 (.agg #[.int .i64 k, .int .i64 x, .int .i64 n, .int .i64 s, .int .i64 u]) (.int .i64 2)).run Tryd.prog W = .ok (.int .i64 n) W := fun _ => by kernel_rfl
  have h3 : ∀ W : World, (Instr.index 36 (.agg #[.int .i64 k, .int .i64 x, .int .i64 n, .int .i64 s, .int .i64 u]) (.int .i64 3)).run Tryd.prog W = .ok (.int .i64 s) W := fun _ => by kernel_rfl
  have h4 : ∀ W : World, (Instr.index 36 (.agg #[.int .i64 k, .int .i64 x, .int .i64 n, .int .i64 s, .int .i64 u]) (.int .i64 4)).run Tryd.prog W = .ok (.int .i64 u) W := fun _ => by kernel_rfl
  match i, hi with
  | 0, _ => exact h0 W
  | 1, _ => exact h1 W
  | 2, _ => exact h2 W
  | 3, _ => exact h3 W
  | 4, _ => exact h4 W

theorem und5 : Tryd.prog.underlying 36 = some (.array (Tryd.prog.arrayLen 36) (Tryd.prog.elem 36)) := by kernel_rfl

theorem und5s (w : World) (k x n s u : Int) : (w.alloc (.cells #[.int .i64 k, .int .i64 x, .int .i64 n, .int .i64 s, .int .i64 u] 25)).heap.size = w.heap.size + 1 := by simp

theorem num5_any (k x n s u : Int) (w : World) : Calls Tryd.prog 13 #[.agg #[.int .i64 k, .int .i64 x, .int .i64 n, .int .i64 s, .int .i64 u]] w fun e w' => e = .returned (.agg #[.int .i64 k, .int .i64 x, .int .i64 n, .int .i64 s, .int .i64 u]) ∧ Below w.heap.size w w' := by
  go_enter Tryd.func13, Tryd.ntmps13
  go_wp2_with fail
  exact bodyPost_ret (v := .agg #[.int .i64 k, .int .i64 x, .int .i64 n, .int .i64 s, .int .i64 u]) (results_cell_row rfl _ _ (w.heap.size + 1) 36 #[.int .i64 k, .int .i64 x, .int .i64 n, .int .i64 s, .int .i64 u] (0, 0) _ rfl (by rw [← und5s w k x n s u]; exact heap_alloc_new _ _) und5 rfl (by kernel_rfl)) rfl ⟨rfl, (box_b _ _).trans ((box_b _ _).mono (by simp))⟩

/-- the words of numbers -/
def itB (xs : List Int) : List ByteArray := xs.map fun m => ⟨(Lib.itoa m).toArray⟩

theorem itB_len (xs : List Int) : (itB xs).length = xs.length := by simp [itB]

theorem itB_take (xs : List Int) (k : Nat) (hk : k < xs.length) : itB (xs.take (k + 1)) = itB (xs.take k) ++ [⟨(Lib.itoa (xs.getD k 0)).toArray⟩] := by
  rw [List.take_add_one, List.getElem?_eq_getElem hk]
  unfold itB
  rw [List.map_append]
  simp [List.getD, hk]

theorem itB_data (xs : List Int) : (itB xs).map (fun b : ByteArray => b.data.toList) = xs.map Lib.itoa := by
  simp [itB, List.map_map, Function.comp_def]

theorem join_jc (n : Int) (r : List Int) : Lib.join ((n :: r).map Lib.itoa) [44] = jc (n :: r) := by
  rw [List.map_cons, Lib.join_cons]
  simp [jc, tailC, Lib.joinTail, List.flatMap, List.map_map, Function.comp_def]

theorem ptB_at {k x n s u : Int} (h : ptB k x n s u = true) (i : Nat) (hi : i < 5) : inB ([k, x, n, s, u].getD i 0) (-1000000000000) 1000000000000 = true := by
  unfold ptB at h
  rw [List.all_eq_true] at h
  exact h _ (by rw [List.getD_eq_getElem?_getD, List.getElem?_eq_getElem (by simpa using hi)]; exact List.getElem_mem _)

end Go.Proofs.YtnppkdnmkhoeeaaDoor
