/- The lives by age, as an array of the program's. -/
import Derived.Test.YtmnddplkmljeaaaTabC
import Derived.Test.YtmnddplkmljeaaaDrawS
import Derived.Deep.WholeRow
import Derived.Deep.RegionLaw
import Derived.Laws.CopyOwn
namespace Go.Proofs.Ytmnddplkmljeaaa
open Go.ChangeShapes Go.WideShapes Go.ChangeAt Go.RowKit
set_option linter.unusedVariables false
set_option maxRecDepth 100000

/-- the lives by age: 152 numbers, those of the table from its first age on -/
def byL (f : Int) (xs : List Int) : List Int := List.replicate f.toNat 0 ++ (xs ++ List.replicate (152 - (f.toNat + xs.length)) 0)

theorem byL_len (f : Int) (xs : List Int) (h : f.toNat + xs.length ≤ 152) : (byL f xs).length = 152 := by simp [byL]; omega

theorem byL_get (f : Int) (xs : List Int) (i : Nat) (h : f.toNat ≤ i) : (byL f xs).getD i 0 = xs.getD (i - f.toNat) 0 := by
  unfold byL
  rw [List.getD_eq_getElem?_getD, List.getElem?_append_right (by simpa using h), List.length_replicate, List.getD_eq_getElem?_getD]
  by_cases hi : i - f.toNat < xs.length
  · rw [List.getElem?_append_left hi]
  · rw [List.getElem?_append_right (by omega), List.getElem?_eq_none (l := xs) (by omega), List.getElem?_replicate]
    split <;> rfl

theorem LTab.fit {f : Int} {xs : List Int} (h : LTab f xs) : f.toNat + xs.length ≤ 151 := by
  have := h.1; have := h.2.2.1; omega

/-- the lives at an age, in the array -/
theorem LTab.by {f : Int} {xs : List Int} (h : LTab f xs) (x : Int) (hx : f ≤ x) : (byL f xs).getD x.toNat 0 = lvs f xs x := by
  have := h.1
  rw [byL_get _ _ _ (by omega)]
  unfold lvs
  congr 1; omega

theorem splice_by (f : Int) (xs : List Int) (h : f.toNat + xs.length ≤ 152) : splice (List.replicate 152 (Value.int .i64 0)) f.toNat (xs.map (Value.int .i64)) = (byL f xs).map (Value.int .i64) := by
  unfold splice byL
  simp only [List.take_replicate, List.drop_replicate, List.map_append, List.map_replicate, List.length_map]
  congr 2
  omega

/-- an array of 152 numbers -/
structure Arr (Zs : Array Value) (ys : List Int) : Prop where
  eq : Zs = (ys.map (Value.int .i64)).toArray
  len : ys.length = 152

theorem Arr.size {Zs : Array Value} {ys : List Int} (h : Arr Zs ys) : Zs.size = 152 := by rw [h.eq]; simp [h.len]

theorem Arr.one {Zs : Array Value} {ys : List Int} (h : Arr Zs ys) : Zs.all (·.oneCell') = true := by
  rw [h.eq, Array.all_eq_true_iff_forall_mem]
  intro v hv
  simp at hv
  obtain ⟨x, _, rfl⟩ := hv
  rfl

theorem Arr.get {Zs : Array Value} {ys : List Int} (h : Arr Zs ys) (i : Nat) (hi : i < 152) : Zs[i]? = some (.int .i64 (ys.getD i 0)) := by
  rw [h.eq]
  have := h.len
  simp [List.getD, show i < ys.length by omega]

def ByPost (f : Int) (xs : List Int) (w : World) (e : Ending) (w' : World) : Prop := ∃ Zs, e = .returned (.agg Zs) ∧ Arr Zs (byL f xs) ∧ Below w.heap.size w w'

end Go.Proofs.Ytmnddplkmljeaaa
