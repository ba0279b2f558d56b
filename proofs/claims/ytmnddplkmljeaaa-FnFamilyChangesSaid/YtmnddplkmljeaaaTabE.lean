/- Fractions in lowest terms; who lives: what the calls return. | LivesAt, DeathsAt and SurvivalOf of the program: what the calls return. | SurvivalOf of the program and of its model: what the calls return. | SurvivalOf of the program: what the calls return. -/
import Derived.Test.YtmnddplkmljeaaaTabC
import Derived.Test.YtmnddplkmljeaaaByAge
import Derived.Test.YtmnddplkmljeaaaNums
namespace Go.Proofs.Ytmnddplkmljeaaa
open Go.ChangeShapes Go.WideShapes Go.ChangeAt Go.RowKit
set_option linter.unusedVariables false
set_option maxRecDepth 100000

theorem gcdI_pos (a b : Int) (ha : 0 ≤ a) (hb : 1 ≤ b) : 1 ≤ gcdI a b := by
  unfold gcdI
  have : 0 < Nat.gcd a.toNat b.toNat := Nat.gcd_pos_of_pos_right _ (by omega)
  omega

theorem gcdI_ge (a b : Int) : 0 ≤ gcdI a b := by unfold gcdI; omega

theorem div_in (a g M : Int) (h0 : 0 ≤ a) (h1 : a ≤ M) (hg : 1 ≤ g) : 0 ≤ a / g ∧ a / g ≤ M := by
  have h2 := Int.ediv_nonneg h0 (show 0 ≤ g by omega)
  have h3 := Int.ediv_le_self g h0
  omega

/-! ### who lives -/

theorem LTab.dead {f : Int} {xs : List Int} (h : LTab f xs) (x : Int) (hx : f ≤ x) : lvs f xs x = 0 ↔ f + xs.length - 1 ≤ x := by
  constructor
  · intro h0
    by_cases hh : x + 1 < f + xs.length
    · have := h.lvs_pos x hh hx; omega
    · omega
  · intro h0; exact h.lvs_zero x (by omega)

/-- .. and no lives are left at the age -/
def clE (f : Int) (xs : List Int) (x y : Int) : Int := if chE f xs x y = 0 then (if lvs f xs x = 0 then 5 else 0) else chE f xs x y

theorem clE_n {f : Int} {xs : List Int} {x y : Int} (h : ¬ chE f xs x y = 0) : clE f xs x y = chE f xs x y := by simp [clE, h]

theorem clE_5 {f : Int} {xs : List Int} {x y : Int} (h : chE f xs x y = 0) (g : lvs f xs x = 0) : clE f xs x y = 5 := by simp [clE, h, g]

theorem clE_0 {f : Int} {xs : List Int} {x y : Int} (h : chE f xs x y = 0) (g : ¬ lvs f xs x = 0) : clE f xs x y = 0 := by simp [clE, h, g]

theorem clE_iff {f : Int} {xs : List Int} {x y : Int} : clE f xs x y = 0 ↔ LTab f xs ∧ (f ≤ x ∧ x ≤ 150) ∧ (0 ≤ y ∧ y ≤ 150) ∧ ¬ lvs f xs x = 0 := by
  unfold clE
  split
  · next h =>
    obtain ⟨h1, h2, h3⟩ := chE_iff.1 h
    split
    · next g => simp [g]
    · next g => simp [h1, h2, h3, g]
  · next h =>
    constructor
    · intro e; exact absurd e h
    · rintro ⟨a, b, c, _⟩; exact chE_iff.2 ⟨a, b, c⟩

theorem clE_code {f : Int} {xs : List Int} {x y : Int} (h : ¬ ageE f xs x = 0) : clE f xs x y = ageE f xs x := by
  have hn : ¬ chE f xs x y = 0 := fun e => h (ageE_iff.2 ⟨(chE_iff.1 e).1, (chE_iff.1 e).2.1⟩)
  rw [clE_n hn]
  unfold chE ageE
  unfold ageE at h
  simp only [inB_iff]
  split
  · next ht =>
    rw [if_pos ht] at h
    by_cases hh : f ≤ x ∧ x ≤ 150
    · exact absurd (if_pos hh) h
    · rw [if_neg hh, if_neg (fun e => hh e.1)]
  · rfl

theorem clE_2 {f : Int} {xs : List Int} {x y : Int} (h : ageE f xs x = 0) (g : ¬ inB y 0 150 = true) : clE f xs x y = 2 := by
  obtain ⟨a, b⟩ := ageE_iff.1 h
  have e : chE f xs x y = 2 := chE_2 (ltB_t a) (fun hh => g hh.2)
  rw [clE_n (by omega), e]

theorem chE_ok {f : Int} {xs : List Int} {x y : Int} (h : ageE f xs x = 0) (g : inB y 0 150 = true) : chE f xs x y = 0 := by
  obtain ⟨a, b⟩ := ageE_iff.1 h
  exact chE_iff.2 ⟨a, b, (inB_iff _ _ _).1 g⟩

/-- the share of the lives at an age that are left, in lowest terms -/
def svN (f : Int) (xs : List Int) (x y : Int) : Int := if clE f xs x y = 0 then lvs f xs (x + y) / gcdI (lvs f xs (x + y)) (lvs f xs x) else 0

def svD (f : Int) (xs : List Int) (x y : Int) : Int := if clE f xs x y = 0 then lvs f xs x / gcdI (lvs f xs (x + y)) (lvs f xs x) else 0

theorem sv_n {f : Int} {xs : List Int} {x y : Int} (h : ¬ clE f xs x y = 0) : svN f xs x y = 0 ∧ svD f xs x y = 0 := by simp [svN, svD, h]

theorem sv_0 {f : Int} {xs : List Int} {x y u v : Int} (h : clE f xs x y = 0) (hu : lvs f xs (x + y) = u) (hv : lvs f xs x = v) : svN f xs x y = u / gcdI u v ∧ svD f xs x y = v / gcdI u v := by
  simp [svN, svD, h, hu, hv]

theorem ret_iii {a b c d e f : Int} (h : a = b) (g : c = d) (k : e = f) : Ending.returned (.tuple #[.int .i64 a, .int .i64 c, .int .i64 e]) = .returned (.tuple #[.int .i64 b, .int .i64 d, .int .i64 f]) := by rw [h, g, k]

end Go.Proofs.Ytmnddplkmljeaaa
