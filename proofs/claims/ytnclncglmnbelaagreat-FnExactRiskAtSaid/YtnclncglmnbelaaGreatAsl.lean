/- Assurances: the model's natural premiums. -/
import Derived.Test.YtnclncglmnbelaaGreatAsu
import Derived.Test.YtnclncglmnbelaaGreatAnnL
import Derived.Deep.RegionHeld3
namespace Go.Proofs.YtnclncglmnbelaaGreat
open Go.ChangeShapes Go.WideShapes Go.ChangeAt Go.RowKit
set_option linter.unusedVariables false
set_option maxRecDepth 100000

/-- are n columns D from k on not 0? -/
def npB (r : Int) (xs : List Int) (k n : Nat) : Bool := (List.range n).all fun j => decide (cD r xs (k + j) ≠ 0)

def npE (r f : Int) (xs : List Int) (x n b : Int) : Int := if asE r f xs 1 x n b = 0 then (if npB r xs (x - f).toNat n.toNat = true then 0 else 5) else asE r f xs 1 x n b

def npF (r : Int) (xs : List Int) (b : Int) (k : Nat) (j : Nat) : Int := upV b (cC r xs (k + j)) (cD r xs (k + j))

def npY (r f : Int) (xs : List Int) (x n b : Int) : List Int := if npE r f xs x n b = 0 then colL (npF r xs b (x - f).toNat) n.toNat else []

theorem npB_no {r : Int} {xs : List Int} {k n j : Nat} (hj : j < n) (h : cD r xs (k + j) = 0) : npB r xs k n = false := by
  unfold npB
  rw [List.all_eq_false]
  exact ⟨j, by simpa using hj, by simp [h]⟩

theorem npB_yes {r : Int} {xs : List Int} {k n : Nat} (h : ∀ j, j < n → cD r xs (k + j) ≠ 0) : npB r xs k n = true := by
  unfold npB
  rw [List.all_eq_true]
  intro j hj
  simpa using h j (by simpa using hj)

theorem npB_iff {r : Int} {xs : List Int} {k n : Nat} : npB r xs k n = true ↔ ∀ j, j < n → cD r xs (k + j) ≠ 0 := by
  refine ⟨fun h j hj e => ?_, npB_yes⟩
  rw [npB_no hj e] at h; cases h

theorem LTab.cC_le {f : Int} {xs : List Int} (h : LTab f xs) (r : Int) (r0 : 0 ≤ r) (k : Nat) : 0 ≤ cC r xs k ∧ cC r xs k ≤ cD r xs k ∧ cD r xs k ≤ 1000000000000000 := by
  have e1 := h.cCD r r0 k
  have e2 := (h.cD_bd r r0 (k + 1)).1
  have e3 := (h.cC_bd r r0 k).1
  have e4 := (h.cD_bd r r0 k).2
  omega

end Go.Proofs.YtnclncglmnbelaaGreat
