/- Fractions in lowest terms; who lives: what the calls return. -/
import Derived.Test.YtncnocaifpiecaaTabD
import Derived.Test.YtncnocaifpiecaaByAge
import Derived.Test.YtncnocaifpiecaaGcd
namespace Go.Proofs.Ytncnocaifpiecaa
open Go.ChangeShapes Go.WideShapes Go.ChangeAt Go.RowKit
set_option linter.unusedVariables false

theorem gcdI_pos (a b : Int) (ha : 0 ≤ a) (hb : 1 ≤ b) : 1 ≤ gcdI a b := by
  unfold gcdI
  have : 0 < Nat.gcd a.toNat b.toNat := Nat.gcd_pos_of_pos_right _ (by omega)
  omega

theorem gcdI_ge (a b : Int) : 0 ≤ gcdI a b := by unfold gcdI; omega

theorem div_in (a g M : Int) (h0 : 0 ≤ a) (h1 : a ≤ M) (hg : 1 ≤ g) : 0 ≤ a / g ∧ a / g ≤ M := by
  have h2 := Int.ediv_nonneg h0 (show 0 ≤ g by omega)
  have h3 := Int.ediv_le_self g h0
  omega

/-! ### who lives -/

theorem LTab.dead {f : Int} {xs : List Int} (h : LTab f xs) (x : Int) (hx : f ≤ x) : lvs f xs x = 0 ↔ f + xs.length - 1 ≤ x := by
  constructor
  · intro h0
    by_cases hh : x + 1 < f + xs.length
    · have := h.lvs_pos x hh hx; omega
    · omega
  · intro h0; exact h.lvs_zero x (by omega)

/-- .. and no lives are left at the age -/
def clE (f : Int) (xs : List Int) (x y : Int) : Int := if chE f xs x y = 0 then (if lvs f xs x = 0 then 5 else 0) else chE f xs x y

theorem clE_n {f : Int} {xs : List Int} {x y : Int} (h : ¬ chE f xs x y = 0) : clE f xs x y = chE f xs x y := by simp [clE, h]

theorem clE_5 {f : Int} {xs : List Int} {x y : Int} (h : chE f xs x y = 0) (g : lvs f xs x = 0) : clE f xs x y = 5 := by simp [clE, h, g]

theorem clE_0 {f : Int} {xs : List Int} {x y : Int} (h : chE f xs x y = 0) (g : ¬ lvs f xs x = 0) : clE f xs x y = 0 := by simp [clE, h, g]

theorem clE_iff {f : Int} {xs : List Int} {x y : Int} : clE f xs x y = 0 ↔ LTab f xs ∧ (f ≤ x ∧ x ≤ 150) ∧ (0 ≤ y ∧ y ≤ 150) ∧ ¬ lvs f xs x = 0 := by
  unfold clE
  split
  · next h =>
    obtain ⟨h1, h2, h3⟩ := chE_iff.1 h
    split
    · next g => simp [g]
    · next g => simp [h1, h2, h3, g]
  · next h =>
    constructor
    · intro e; exact absurd e h
    · rintro ⟨a, b, c, _⟩; exact chE_iff.2 ⟨a, b, c⟩

end Go.Proofs.Ytncnocaifpiecaa
