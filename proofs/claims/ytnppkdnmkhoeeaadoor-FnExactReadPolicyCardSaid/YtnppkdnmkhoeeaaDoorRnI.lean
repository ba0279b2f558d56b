/- ReadTable of the program: what the calls return. -/
import Derived.Test.YtnppkdnmkhoeeaaDoorRtS
import Derived.Test.YtnppkdnmkhoeeaaDoorPar
namespace Go.Proofs.YtnppkdnmkhoeeaaDoor
open Go.ChangeShapes Go.WideShapes Go.ChangeAt Go.RowKit
set_option linter.unusedVariables false
set_option maxRecDepth 100000

theorem make_wide (l : Nat) (hl : l ≤ 1100000) (w : World) :
    (Instr.makeSlice 32 (.int .i64 (l : Int)) (.int .i64 (l : Int))).run Tryd.prog w = .ok (.slice (some ⟨w.heap.size, 0, none⟩) l l) (w.alloc (.cells ((List.replicate l (0 : Int)).map (Value.int .i64)).toArray 2)) := by
  obtain ⟨i0, hi, hz0, hz1, hz2⟩ := info_parts info64
  have h := run_make (P := Tryd.prog) w 32 2 i0 (.int .i64 0) Tryd.underlying32 hi hz0 .i64 .i64 l l (by omega) (Int.le_refl _) (by rw [hz2]; omega) (by omega)
  rw [h, ← made_zero]
  simp [hz1, Value.cells]

theorem Blk.row {w : World} {g : Nat} {xs : List Int} (h : Blk w g xs) : RowI w g 0 xs := ⟨fun i hi => by rw [Nat.zero_add]; exact h.cell i hi, fun i _ => h.free _⟩

theorem vals_len (L : List (List UInt8)) : (vals L).length = L.length := by simp [vals]

theorem vals_get (L : List (List UInt8)) (k : Nat) (h : k < L.length) (v : Int) (hv : pv (L.getD k []) = some v) : (vals L).getD k 0 = v := by
  simp [List.getD, h] at hv
  simp [vals, List.getD, h, hv]

theorem allP_t {L : List (List UInt8)} (h : ∀ j, j < L.length → (pv (L.getD j [])).isSome = true) : allP L = true := by
  unfold allP
  rw [List.all_eq_true]
  intro x hx
  obtain ⟨i, hi, rfl⟩ := List.getElem_of_mem hx
  have := h i hi
  simpa [List.getD, hi] using this

theorem allP_f {L : List (List UInt8)} {k : Nat} (hk : k < L.length) (h : pv (L.getD k []) = none) : allP L = false := by
  unfold allP
  rw [Bool.eq_false_iff]
  intro hh
  rw [List.all_eq_true] at hh
  have := hh (L.getD k []) (by simp [List.getD, hk])
  rw [h] at this; cases this

def RnPost (l : List UInt8) (w : World) (e : Ending) (w' : World) : Prop :=
  ((rnO l = true ∧ ∃ g off n c, e = .returned (.tuple #[.int .i64 (rnF l), .slice (some ⟨g, off, none⟩) n c, .bool true]) ∧ n ≤ c ∧ n ≤ 1100000 ∧ (rnL l).length = n ∧ w.heap.size ≤ g ∧ g < w'.heap.size ∧ RowI w' g off (rnL l)) ∨
    (rnO l = false ∧ e = .returned (.tuple #[.int .i64 0, .slice none 0 0, .bool false]))) ∧ Below w.heap.size w w'

/-- what a reading of a life table asks of the world -/
structure AskT (w : World) : Prop where
  tab : Tab w
  ask : AskE w

theorem AskT.step {w w' : World} (h : AskT w) (hb : Below w.heap.size w w') : AskT w' := ⟨h.tab.stepB h.tab.lt hb, h.ask.step hb⟩

end Go.Proofs.YtnppkdnmkhoeeaaDoor
