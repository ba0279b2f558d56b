/- Merged: Dsum. -/
import Derived.Test.YtpphiekbhikadaaDoorTrx2
import Derived.Deep.WholeRow

/- Sums of discounts; DiscountOf and CertainAnnuity of the program and of its model: one Lean function for both. -/
namespace Go.Proofs.YtpphiekbhikadaaDoor
open Go.ChangeShapes Go.WideShapes Go.ChangeAt Go.RowKit
set_option linter.unusedVariables false
set_option maxRecDepth 100000

/-- the sum of the discounts after m to m + n - 1 years -/
def dsum (r : Int) (m : Nat) : Nat → Int
  | 0 => 0
  | n + 1 => dsum r m n + disc r (m + n)

theorem dsum_bd (r : Int) (h : 0 ≤ r) (m n : Nat) : 0 ≤ dsum r m n ∧ dsum r m n ≤ n * 1000000000 := by
  induction n with
  | zero => simp [dsum]
  | succ n ih =>
    obtain ⟨h1, h2⟩ := disc_bd r h (m + n)
    rw [dsum]
    omega

/-- the walks' form of a step of a sum: both terms told -/
theorem dsum_step (r : Int) (h : 0 ≤ r) (m n : Nat) (hn : n ≤ 1000) : ∃ s d : Int, dsum r m n = s ∧ disc r (m + n) = d ∧ dsum r m (n + 1) = s + d ∧ 0 ≤ s ∧ s ≤ 1000000000000 ∧ 0 ≤ d ∧ d ≤ 1000000000 := by
  obtain ⟨h1, h2⟩ := disc_bd r h (m + n)
  obtain ⟨h3, h4⟩ := dsum_bd r h m n
  exact ⟨_, _, rfl, rfl, rfl, h3, by omega, h1, h2⟩

/-! ### the tests of the arguments -/

def rateB (r : Int) : Bool := inB r 0 200

def termB (n : Int) : Bool := inB n 0 120

def amtB (n : Int) : Bool := inB n 0 1000000000

/-! ### new discounts -/

/-- no discounts yet -/
def z121 : List Int := List.replicate 121 0

theorem dcells_one (r d m : Int) (xs : List Int) : (dcells r d m xs).all (·.oneCell') = true := by
  simp [dcells, Value.oneCell']

theorem new_below {w w' : World} {o : Obj} (h : Only w.heap.size (w.alloc o) w') : Below w.heap.size w w' :=
  ((Below.refl w.heap.size w).alloc (Nat.le_refl _) _).trans (h.below (Nat.le_refl _))

/-! ### DiscountOf and CertainAnnuity -/

def rtB (r n : Int) : Bool := rateB r && termB n

def rtE (r n : Int) : Int := if rtB r n then 0 else 2

def doV (r n : Int) : Int := if rtB r n then disc r n.toNat else 0

def caV (r n : Int) : Int := if rtB r n then dsum r 0 n.toNat else 0

theorem rtB_iff (r n : Int) : rtB r n = true ↔ (0 ≤ r ∧ r ≤ 200) ∧ (0 ≤ n ∧ n ≤ 120) := by
  unfold rtB rateB termB; rw [Bool.and_eq_true, inB_iff, inB_iff]

end Go.Proofs.YtpphiekbhikadaaDoor
