/- Codes of a table and an age; the lives at an age: what the calls return. | LivesAt and DeathsAt of the model: what the calls return. -/
import Derived.Test.YtmnddplkmljeaaaTab
import Derived.Deep.RegionHeld3
namespace Go.Proofs.Ytmnddplkmljeaaa
open Go.ChangeShapes Go.WideShapes Go.ChangeAt Go.RowKit
set_option linter.unusedVariables false
set_option maxRecDepth 100000

/-- behind a call that was made when a block of two cells had just been laid -/
theorem box2 {w w1 : World} {x y : Value} {T : TypeId} (hb : Below (w.alloc (.cells #[x, y] T)).heap.size (w.alloc (.cells #[x, y] T)) w1) :
    Below w.heap.size w w1 ∧ w1.cell? ⟨w.heap.size, 0, none⟩ = some x ∧ w1.cell? ⟨w.heap.size, 1, none⟩ = some y :=
  ⟨((Below.refl w.heap.size w).alloc (Nat.le_refl _) _).trans (hb.mono (by simp)), (hb.cell (p := ⟨w.heap.size, 0, none⟩) (by simp)).trans (World.cell?_alloc_new _ _ _ _), (hb.cell (p := ⟨w.heap.size, 1, none⟩) (by simp)).trans (World.cell?_alloc_new _ _ _ _)⟩

/-- .. and behind the next one -/
theorem keep2 {w1 w2 : World} {p : Addr} {x : Value} (hb : Below w1.heap.size w1 w2) (h : w1.cell? p = some x) : w2.cell? p = some x := (hb.cell (block_lt h)).trans h

theorem box_b (w : World) (o : Obj) : Below w.heap.size w (w.alloc o) := (Below.refl _ _).alloc (Nat.le_refl _) _

/-- years in their range, too -/
def chE (f : Int) (xs : List Int) (x y : Int) : Int := if ltB f xs = true then (if inB x f 150 = true ∧ inB y 0 150 = true then 0 else 2) else 1

theorem chE_1 {f : Int} {xs : List Int} {x y : Int} (h : ltB f xs = false) : chE f xs x y = 1 := by simp [chE, h]

theorem chE_2 {f : Int} {xs : List Int} {x y : Int} (h : ltB f xs = true) (g : ¬ (inB x f 150 = true ∧ inB y 0 150 = true)) : chE f xs x y = 2 := by unfold chE; rw [if_pos h, if_neg g]

theorem chE_0 {f : Int} {xs : List Int} {x y : Int} (h : ltB f xs = true) (g : inB x f 150 = true) (k : inB y 0 150 = true) : chE f xs x y = 0 := by unfold chE; rw [if_pos h, if_pos ⟨g, k⟩]

theorem chE_age (f : Int) (xs : List Int) (x : Int) : chE f xs x 0 = ageE f xs x := by
  unfold chE ageE
  simp only [inB_iff]
  simp

theorem chE_iff {f : Int} {xs : List Int} {x y : Int} : chE f xs x y = 0 ↔ LTab f xs ∧ (f ≤ x ∧ x ≤ 150) ∧ 0 ≤ y ∧ y ≤ 150 := by
  unfold chE; rw [← ltB_iff]
  simp only [inB_iff]
  split
  · next h => split <;> simp_all
  · next h => simp [h]

theorem laV_0 {f : Int} {xs : List Int} {x : Int} (h : ageE f xs x = 0) : laV f xs x = lvs f xs x := by simp [laV, h]

theorem laV_n {f : Int} {xs : List Int} {x : Int} (h : ¬ ageE f xs x = 0) : laV f xs x = 0 := by simp [laV, h]

theorem daV_0 {f : Int} {xs : List Int} {x : Int} (h : ageE f xs x = 0) : daV f xs x = lvs f xs x - lvs f xs (x + 1) := by simp [daV, h]

theorem daV_n {f : Int} {xs : List Int} {x : Int} (h : ¬ ageE f xs x = 0) : daV f xs x = 0 := by simp [daV, h]

end Go.Proofs.Ytmnddplkmljeaaa
