/- Merged: ComI. -/
import Derived.Test.YtdlfofdibooidaaGreatLb10
import Derived.Test.YtdlfofdibooidaaGreatLb20
import Derived.Shelf.Abstract

/- The program's lists of columns, its columns at an age, and the functions that the document names. -/
namespace Go.Proofs.YtdlfofdibooidaaGreat
open Go.ChangeShapes Go.WideShapes Go.ChangeAt Go.RowKit
set_option linter.unusedVariables false
set_option maxRecDepth 100000

def LPost (ys : List Int) (w : World) (e : Ending) (w' : World) : Prop := ∃ v, e = .returned v ∧ OwnI w.heap.size w' v ys ∧ Below w.heap.size w w'

/-- what a closure takes from the columns -/
def Takes (fn : FuncId) (pick : Int → Int → Int → Int → Int) : Prop :=
  (∀ args (w : World), (callFunc fn args).run Tryz.prog w = .ok (.enter fn args) w) ∧
  ∀ (a b c d : Int) (W : World), Calls Tryz.prog fn #[.agg #[.int .i64 a, .int .i64 b, .int .i64 c, .int .i64 d]] W fun e w' => e = .returned (.int .i64 (pick a b c d)) ∧ Below W.heap.size W w'

theorem coE_age (r f : Int) (xs : List Int) (x : Int) : coE r f xs x = if ageE f xs x = 0 then (if rateB r = true then 0 else 2) else ageE f xs x := by
  unfold coE ageE
  by_cases h1 : ltB f xs = true
  · by_cases h3 : f ≤ x ∧ x ≤ 150
    · have : inB x f 150 = true := (inB_iff _ _ _).2 h3
      simp [h1, h3, this]
    · have : ¬ inB x f 150 = true := fun h => h3 ((inB_iff _ _ _).1 h)
      simp [h1, h3, this]
  · simp [h1]

theorem icheck_any (r f : Int) (xs : List Int) (a : Option Addr) (l c : Nat) (x : Int) (w : World) (h : Ints w a l xs) (hlc : l ≤ c) :
    Calls Tryz.prog 104 #[.agg #[.int .i64 f, .slice a l c], .int .i64 r, .int .i64 x] w fun e w' => e = .returned (.int .i64 (coE r f xs x)) ∧ Below w.heap.size w w' := by
  have HC := Lib.hid (check_any f xs a l c x 0 (w.alloc (.cells #[.int .i64 f, .slice a l c] 26)) (h.on (box_b _ _)) hlc)
  rw [chE_age] at HC
  have HE := Lib.hid (coE_age r f xs x)
  clear h
  obtain ⟨E, hE⟩ : ∃ E, ageE f xs x = E := ⟨_, rfl⟩
  rw [hE] at HC HE
  clear hE
  by_cases hz : E = 0
  · subst hz
    by_cases hr : rateB r = true
    · have HR : Hid (coE r f xs x = 0) := Lib.hid (by rw [HE.out]; simp [hr])
      go_enter Tryz.func104, Tryz.ntmps104
      go_wp2_with fail
      refine HC.out.mono ?_
      rintro e w1 ⟨rfl, hb⟩
      obtain ⟨hB, hc0, hc1⟩ := box2 hb
      have HB := Lib.hid hB
      clear hB hb
      go_wp2_with (go_at_call 122; refine (isRate_any _ _).mono ?_; rintro e w' ⟨rfl, rfl⟩)
      go_ret
      exact ⟨ret_int HR.out.symm, HB.out⟩
    · have HR : Hid (coE r f xs x = 2) := Lib.hid (by rw [HE.out]; simp [hr])
      go_enter Tryz.func104, Tryz.ntmps104
      go_wp2_with fail
      refine HC.out.mono ?_
      rintro e w1 ⟨rfl, hb⟩
      obtain ⟨hB, hc0, hc1⟩ := box2 hb
      have HB := Lib.hid hB
      clear hB hb
      go_wp2_with (go_at_call 122; refine (isRate_any _ _).mono ?_; rintro e w' ⟨rfl, rfl⟩)
      go_ret
      exact ⟨ret_int HR.out.symm, HB.out⟩
  · have hz2 : (E == 0) = false := by simp [hz]
    have HR : Hid (coE r f xs x = E) := Lib.hid (by rw [HE.out, if_neg hz])
    go_enter Tryz.func104, Tryz.ntmps104
    go_wp2_with fail
    refine HC.out.mono ?_
    rintro e w1 ⟨rfl, hb⟩
    obtain ⟨hB, hc0, hc1⟩ := box2 hb
    have HB := Lib.hid hB
    clear hB hb
    go_wp2_with fail
    go_ret
    exact ⟨ret_int HR.out.symm, HB.out⟩

end Go.Proofs.YtdlfofdibooidaaGreat
