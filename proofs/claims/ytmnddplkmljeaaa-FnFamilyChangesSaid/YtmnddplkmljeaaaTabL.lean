/- Life tables that a law takes, makes and compares; the exact laws on IsLifeTable, LivesAt, DeathsAt and SurvivalOf. -/
import Derived.Test.YtmnddplkmljeaaaTabE
import Derived.Test.YtmnddplkmljeaaaOwn
namespace Go.Proofs.Ytmnddplkmljeaaa
open Go.ChangeShapes Go.WideShapes Go.ChangeAt Go.RowKit
set_option linter.unusedVariables false

theorem szS_big (a : Option Addr) (l c : Nat) (n : Int) (w : World) (hl : l ≤ 9223372036854775807) (n0 : 0 ≤ n) (n1 : n ≤ 1048576) (hlt : n < (l : Int)) :
    Calls Try.prog 98 #[.slice a l c, .int .i64 n] w fun e w' => e = .returned (.int .i64 (-1)) ∧ w = w' := by
  have h2 : n - (l : Int) < 0 := by omega
  go_enter Try.func98, Try.ntmps98
  go_wp2_with fail
  go_ret
  exact ⟨rfl, rfl⟩

theorem szS_fit (a : Option Addr) (l c : Nat) (n : Int) (w : World) (n0 : 0 ≤ n) (n1 : n ≤ 1048576) (hlt : (l : Int) ≤ n) :
    Calls Try.prog 98 #[.slice a l c, .int .i64 n] w fun e w' => e = .returned (.int .i64 (n - l)) ∧ w = w' := by
  have h2 : ¬ n - (l : Int) < 0 := by omega
  go_enter Try.func98, Try.ntmps98
  go_wp2_with fail
  go_ret
  exact ⟨rfl, rfl⟩

/-- a table that a law has copied: in a block of its own -/
def ToPost (w : World) (f : Int) (xs : List Int) (l : Nat) (e : Ending) (w' : World) : Prop := ∃ B, e = .returned (.agg #[.int .i64 f, .slice (some ⟨B, 0, none⟩) l l]) ∧ w.heap.size ≤ B ∧ Blk w' B xs ∧ Below w.heap.size w w'

end Go.Proofs.Ytmnddplkmljeaaa
